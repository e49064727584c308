/-
  Contracts of package checks' goOn and of the document's On: a register by a byte, forward.
-/
import Derived.Test.YtcbeommmacnkgaaDoorRows
import Derived.WalkKit
import Derived.WalkSpells
import Derived.WalkLawsBesides
import Derived.Lib.Hide
import Derived.Test.YtcbeommmacnkgaaDoorCMath
namespace Go.Proofs.YtcbeommmacnkgaaDoor
open Go.RowKit
open Crc
theorem ret_u32 {k : IntKind} {a b : Int} (h : a = b) : Ending.returned (.int k a) = .returned (.int k b) := by rw [h]
theorem val_u32 {k : IntKind} {a b : Int} (h : a = b) : Value.int k a = .int k b := by rw [h]
theorem and_one {x : Nat} (h : x < 4294967296) : bits .and .u32 (x : Int) 1 = ((x % 2 : Nat) : Int) := by
  have := u32_and_nat x 1 h (by decide)
  rw [nat_mask1] at this
  exact this
theorem xor_half {x : Nat} (h : x < 4294967296) : bits .xor .u32 ((x : Int) / 2) 2197175160 = ((x / 2 ^^^ 2197175160 : Nat) : Int) :=
  u32_xor_nat (x / 2) 2197175160 (by omega) (by decide)
theorem xor_poly {x : Nat} (h : x < 4294967296) : bits .xor .u32 (x : Int) 2197175160 = ((x ^^^ 2197175160 : Nat) : Int) :=
  u32_xor_nat x 2197175160 h (by decide)
set_option maxHeartbeats 400000 in
theorem goOn_any (r : Nat) (c : UInt8) (w : World) (h : r < 4294967296) :
    Calls Tryd.prog 62 #[.int .u32 r, .int .u8 c.toNat] w fun e w' => e = .returned (.int .u32 (on r c.toNat : Nat)) ∧ w = w' := by
  have hc := c.toNat_lt
  go_enter Tryd.func62, Tryd.ntmps62
  go_wp2
  go_loop [0, 10] (fun t i => ∃ k : Nat, k ≤ 8 ∧ i = .int .i64 k ∧ t = .int .u32 (stps k (r ^^^ c.toNat) : Nat)) (fun _ i => 8 - (intOf i).toNat)
  case atStart => exact ⟨0, Nat.zero_le _, rfl, by rw [u32_xor_nat _ _ h (by omega)]; rfl⟩
  case round =>
    obtain ⟨k, hk, rfl, rfl⟩ := hrel
    have hx := stps_lt (xor_lt h (byte_lt c)) k
    have HS := Lib.hid (stps_succ k (r ^^^ c.toNat))
    have HE := Lib.hid (show on r c.toNat = stps 8 (r ^^^ c.toNat) from rfl)
    by_cases hlt : k < 8
    · clear HE
      generalize stps k (r ^^^ c.toNat) = x at hx HS ⊢
      by_cases hb : x % 2 = 1
      · have ht : (bits .and .u32 (x : Int) 1 == 1) = true := by rw [and_one hx, hb]; rfl
        have HB := Lib.hid hb
        clear hb
        go_wp2
        go_round
        case rel => exact ⟨k + 1, by omega, by go_num, val_u32 (by rw [HS.out, xor_half hx]; unfold stp; rw [if_pos HB.out])⟩
        case measure => simp [intOf]; omega
      · have ht : (bits .and .u32 (x : Int) 1 == 1) = false := by rw [and_one hx, show x % 2 = 0 by omega]; rfl
        go_wp2
        go_round
        case rel => exact ⟨k + 1, by omega, by go_num, val_u32 (by rw [HS.out]; unfold stp; rw [if_neg hb]; omega)⟩
        case measure => simp [intOf]; omega
    · go_wp2
      go_ret
      exact ⟨ret_u32 (by rw [HE.out, show k = 8 by omega]), rfl⟩
end Go.Proofs.YtcbeommmacnkgaaDoor
