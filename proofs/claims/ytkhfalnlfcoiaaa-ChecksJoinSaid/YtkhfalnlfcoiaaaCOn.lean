/-
  Contracts of package checks' goOn and goBack, and of the document's On and back: a register by a byte, forward and back.
-/
import Derived.Test.YtkhfalnlfcoiaaaRows
import Derived.WalkKit
import Derived.WalkSpells
import Derived.WalkLawsBesides
import Derived.Lib.Hide
import Derived.Test.YtkhfalnlfcoiaaaCMath
namespace Go.Proofs.Ytkhfalnlfcoiaaa
open Go.RowKit
open Crc
theorem ret_u32 {k : IntKind} {a b : Int} (h : a = b) : Ending.returned (.int k a) = .returned (.int k b) := by rw [h]
theorem val_u32 {k : IntKind} {a b : Int} (h : a = b) : Value.int k a = .int k b := by rw [h]
theorem and_one {x : Nat} (h : x < 4294967296) : bits .and .u32 (x : Int) 1 = ((x % 2 : Nat) : Int) := by
  have := u32_and_nat x 1 h (by decide)
  rw [nat_mask1] at this
  exact this
theorem xor_half {x : Nat} (h : x < 4294967296) : bits .xor .u32 ((x : Int) / 2) 2197175160 = ((x / 2 ^^^ 2197175160 : Nat) : Int) :=
  u32_xor_nat (x / 2) 2197175160 (by omega) (by decide)
theorem xor_poly {x : Nat} (h : x < 4294967296) : bits .xor .u32 (x : Int) 2197175160 = ((x ^^^ 2197175160 : Nat) : Int) :=
  u32_xor_nat x 2197175160 h (by decide)
set_option maxHeartbeats 400000 in
theorem goOn_any (r : Nat) (c : UInt8) (w : World) (h : r < 4294967296) :
    Calls Try.prog 17 #[.int .u32 r, .int .u8 c.toNat] w fun e w' => e = .returned (.int .u32 (on r c.toNat : Nat)) ∧ w = w' := by
  have hc := c.toNat_lt
  go_enter Try.func17, Try.ntmps17
  go_wp2
  go_loop [0, 10] (fun t i => ∃ k : Nat, k ≤ 8 ∧ i = .int .i64 k ∧ t = .int .u32 (stps k (r ^^^ c.toNat) : Nat)) (fun _ i => 8 - (intOf i).toNat)
  case atStart => exact ⟨0, Nat.zero_le _, rfl, by rw [u32_xor_nat _ _ h (by omega)]; rfl⟩
  case round =>
    obtain ⟨k, hk, rfl, rfl⟩ := hrel
    have hx := stps_lt (xor_lt h (byte_lt c)) k
    have HS := Lib.hid (stps_succ k (r ^^^ c.toNat))
    have HE := Lib.hid (show on r c.toNat = stps 8 (r ^^^ c.toNat) from rfl)
    by_cases hlt : k < 8
    · clear HE
      generalize stps k (r ^^^ c.toNat) = x at hx HS ⊢
      by_cases hb : x % 2 = 1
      · have ht : (bits .and .u32 (x : Int) 1 == 1) = true := by rw [and_one hx, hb]; rfl
        have HB := Lib.hid hb
        clear hb
        go_wp2
        go_round
        case rel => exact ⟨k + 1, by omega, by go_num, val_u32 (by rw [HS.out, xor_half hx]; unfold stp; rw [if_pos HB.out])⟩
        case measure => simp [intOf]; omega
      · have ht : (bits .and .u32 (x : Int) 1 == 1) = false := by rw [and_one hx, show x % 2 = 0 by omega]; rfl
        go_wp2
        go_round
        case rel => exact ⟨k + 1, by omega, by go_num, val_u32 (by rw [HS.out]; unfold stp; rw [if_neg hb]; omega)⟩
        case measure => simp [intOf]; omega
    · go_wp2
      go_ret
      exact ⟨ret_u32 (by rw [HE.out, show k = 8 by omega]), rfl⟩
set_option maxHeartbeats 400000 in
theorem On_any (r : Nat) (c : UInt8) (w : World) (h : r < 4294967296) :
    Calls Try.prog 18 #[.int .u32 r, .int .u8 c.toNat] w fun e w' => e = .returned (.int .u32 (on r c.toNat : Nat)) ∧ w = w' := by
  have hc := c.toNat_lt
  go_enter Try.func18, Try.ntmps18
  go_wp2
  go_loop [0, 5] (fun t i => ∃ k : Nat, k ≤ 8 ∧ i = .int .i64 k ∧ t = .int .u32 (stps k (r ^^^ c.toNat) : Nat)) (fun _ i => 8 - (intOf i).toNat)
  case atStart => exact ⟨0, Nat.zero_le _, rfl, by rw [u32_xor_nat _ _ h (by omega)]; rfl⟩
  case round =>
    obtain ⟨k, hk, rfl, rfl⟩ := hrel
    have hx := stps_lt (xor_lt h (byte_lt c)) k
    have HS := Lib.hid (stps_succ k (r ^^^ c.toNat))
    have HE := Lib.hid (show on r c.toNat = stps 8 (r ^^^ c.toNat) from rfl)
    by_cases hlt : k < 8
    · clear HE
      generalize stps k (r ^^^ c.toNat) = x at hx HS ⊢
      by_cases hb : x % 2 = 1
      · have ht : (((x : Int) % 2) == 1) = true := beq_iff_eq.2 (by omega)
        have HB := Lib.hid hb
        clear hb
        go_wp2
        go_round
        case rel => exact ⟨k + 1, by omega, by go_num, val_u32 (by rw [HS.out, xor_half hx]; unfold stp; rw [if_pos HB.out])⟩
        case measure => simp [intOf]; omega
      · have ht : (((x : Int) % 2) == 1) = false := beq_eq_false_iff_ne.2 (by omega)
        go_wp2
        go_round
        case rel => exact ⟨k + 1, by omega, by go_num, val_u32 (by rw [HS.out]; unfold stp; rw [if_neg hb]; omega)⟩
        case measure => simp [intOf]; omega
    · go_wp2
      go_ret
      exact ⟨ret_u32 (by rw [HE.out, show k = 8 by omega]), rfl⟩
theorem or_bit {y : Nat} (h : y < 2147483648) (f : Nat) (hf : f < 2) : bits .or .u32 ((y : Int) * 2) (f : Int) = ((2 * y + f : Nat) : Int) := by
  rw [show (y : Int) * 2 = ((2 * y : Nat) : Int) by omega, u32_or_nat _ _ (by omega) (by omega), nat_join 1 _ _ (by omega) (by omega)]
theorem bk_up {x : Nat} (h0 : 2147483648 ≤ x) (h : x < 4294967296) : bits .or .u32 (bits .xor .u32 (x : Int) 2197175160 * 2 % 4294967296) ((x : Int) / 2147483648) = ((bk x : Nat) : Int) := by
  have ht := top_off h0 h
  rw [xor_poly h, show ((x ^^^ 2197175160 : Nat) : Int) * 2 % 4294967296 = ((x ^^^ 2197175160 : Nat) : Int) * 2 by omega, show (x : Int) / 2147483648 = ((1 : Nat) : Int) by omega, or_bit ht 1 (by decide)]
  unfold bk
  rw [if_pos h0]
theorem bk_low {x : Nat} (h0 : ¬ 2147483648 ≤ x) : bits .or .u32 ((x : Int) * 2) ((x : Int) / 2147483648) = ((bk x : Nat) : Int) := by
  rw [show (x : Int) / 2147483648 = ((0 : Nat) : Int) by omega, or_bit (by omega) 0 (by decide)]
  unfold bk
  rw [if_neg h0]; rfl
set_option maxHeartbeats 400000 in
theorem goBack_any (r : Nat) (c : UInt8) (w : World) (h : r < 4294967296) :
    Calls Try.prog 20 #[.int .u32 r, .int .u8 c.toNat] w fun e w' => e = .returned (.int .u32 (off r c.toNat : Nat)) ∧ w = w' := by
  have hc := c.toNat_lt
  go_enter Try.func20, Try.ntmps20
  go_wp2
  go_loop [0, 6] (fun t i => ∃ k : Nat, k ≤ 8 ∧ i = .int .i64 k ∧ t = .int .u32 (bks k r : Nat)) (fun _ i => 8 - (intOf i).toNat)
  case atStart => exact ⟨0, Nat.zero_le _, rfl, rfl⟩
  case round =>
    obtain ⟨k, hk, rfl, rfl⟩ := hrel
    have hx := bks_lt h k
    have HS := Lib.hid (bks_succ k r)
    have HE := Lib.hid (show off r c.toNat = bks 8 r ^^^ c.toNat from rfl)
    by_cases hlt : k < 8
    · clear HE
      generalize bks k r = x at hx HS ⊢
      by_cases hb : 2147483648 ≤ x
      · have ht : (((x : Int) / 2147483648) == 1) = true := beq_iff_eq.2 (by omega)
        go_wp2
        go_round
        case rel => exact ⟨k + 1, by omega, by go_num, val_u32 (by rw [HS.out, bk_up hb hx])⟩
        case measure => simp [intOf]; omega
      · have ht : (((x : Int) / 2147483648) == 1) = false := beq_eq_false_iff_ne.2 (by omega)
        go_wp2
        go_round
        case rel => exact ⟨k + 1, by omega, by go_num, val_u32 (by rw [HS.out, bk_low hb])⟩
        case measure => simp [intOf]; omega
    · go_wp2
      go_ret
      exact ⟨ret_u32 (by rw [HE.out, show k = 8 by omega, u32_xor_nat _ _ (bks_lt h 8) (by omega)]), rfl⟩
set_option maxRecDepth 100000 in
set_option maxHeartbeats 400000 in
theorem back_any (r : Nat) (c : UInt8) (w : World) (h : r < 4294967296) :
    Calls Try.prog 21 #[.int .u32 r, .int .u8 c.toNat] w fun e w' => e = .returned (.int .u32 (off r c.toNat : Nat)) ∧ w = w' := by
  have hc := c.toNat_lt
  go_enter Try.func21, Try.ntmps21
  go_wp2
  go_loop [0, 5] (fun t i => ∃ k : Nat, k ≤ 8 ∧ i = .int .i64 k ∧ t = .int .u32 (bks k r : Nat)) (fun _ i => 8 - (intOf i).toNat)
  case atStart => exact ⟨0, Nat.zero_le _, rfl, rfl⟩
  case round =>
    obtain ⟨k, hk, rfl, rfl⟩ := hrel
    have hx := bks_lt h k
    have HS := Lib.hid (bks_succ k r)
    have HE := Lib.hid (show off r c.toNat = bks 8 r ^^^ c.toNat from rfl)
    by_cases hlt : k < 8
    · clear HE
      generalize bks k r = x at hx HS ⊢
      by_cases hb : 2147483648 ≤ x
      · have ht : decide ((2147483648 : Int) ≤ (x : Int)) = true := decide_eq_true (by omega)
        have HB := Lib.hid hb
        clear hb
        go_wp2
        go_round
        case rel => exact ⟨k + 1, by omega, by go_num, val_u32 (by have ht := top_off HB.out hx; rw [HS.out, xor_poly hx]; unfold bk; rw [if_pos HB.out]; omega)⟩
        case measure => simp [intOf]; omega
      · have ht : decide ((2147483648 : Int) ≤ (x : Int)) = false := decide_eq_false (by omega)
        have HB := Lib.hid hb
        clear hb
        go_wp2
        go_round
        case rel => exact ⟨k + 1, by omega, by go_num, val_u32 (by have ht := HB.out; rw [HS.out]; unfold bk; rw [if_neg HB.out]; omega)⟩
        case measure => simp [intOf]; omega
    · go_wp2
      go_ret
      exact ⟨ret_u32 (by rw [HE.out, show k = 8 by omega, u32_xor_nat _ _ (bks_lt h 8) (by omega)]), rfl⟩
end Go.Proofs.Ytkhfalnlfcoiaaa
