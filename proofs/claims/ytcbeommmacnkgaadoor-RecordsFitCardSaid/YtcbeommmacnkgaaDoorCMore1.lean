/-
  Contracts of Sum and More of package checks, and of the document's Sum and More: they only compute.
-/
import Derived.Test.YtcbeommmacnkgaaDoorCOn1
namespace Go.Proofs.YtcbeommmacnkgaaDoor
open Go.RowKit
open Crc
def Crc.tx (s : ByteArray) : List UInt8 := s.data.toList
theorem Crc.tx_len (s : ByteArray) : (tx s).length = s.size := rfl
theorem Crc.tx_take (s : ByteArray) (k : Nat) (h : k < s.size) : (tx s).take (k + 1) = (tx s).take k ++ [s[k]] := by
  rw [List.take_succ_eq_append_getElem (by simpa [tx_len] using h)]; rfl
theorem Crc.tx_drop (s : ByteArray) (k : Nat) (h : k < s.size) : (tx s).drop k = s[k] :: (tx s).drop (k + 1) := by
  rw [List.drop_eq_getElem_cons (by simpa [tx_len] using h)]; rfl
theorem flip_bits {n : Nat} (h : n < 4294967296) : bits .xor .u32 IntKind.u32.max (n : Int) = ((4294967295 - n : Nat) : Int) := by
  rw [flip_xor h]
  exact u32_xor_nat 4294967295 n (by decide) h
theorem Crc.ons_step (r : Nat) (s : ByteArray) (k : Nat) (h : k < s.size) : ons r ((tx s).take (k + 1)) = on (ons r ((tx s).take k)) s[k].toNat := by
  rw [tx_take s k h, ons_snoc]
theorem Crc.ons_all (r : Nat) (s : ByteArray) (k : Nat) (h : s.size ≤ k) : ons r ((tx s).take k) = ons r (tx s) := by
  rw [List.take_of_length_le (by rw [tx_len]; exact h)]
theorem Crc.offs_step (r : Nat) (s : ByteArray) (k : Nat) (h : k < s.size) : offs r ((tx s).drop k) = off (offs r ((tx s).drop (k + 1))) s[k].toNat := by
  rw [tx_drop s k h]; rfl
theorem Crc.offs_end (r : Nat) (s : ByteArray) : offs r ((tx s).drop s.size) = r := by
  rw [List.drop_of_length_le (by rw [tx_len]; exact Nat.le_refl _)]; rfl
set_option maxRecDepth 100000 in
set_option maxHeartbeats 400000 in
theorem more_any (n : Nat) (s : ByteArray) (w : World) (hn : n < 4294967296) (hs : s.size ≤ maxLen) :
    Calls Tryd.prog 55 #[.int .u32 n, .string s] w fun e w' => e = .returned (.int .u32 (more n (tx s) : Nat)) ∧ w = w' := by
  unfold maxLen at hs
  have HM := Lib.hid (show more n (tx s) = 4294967295 - ons (4294967295 - n) (tx s) from rfl)
  go_enter Tryd.func55, Tryd.ntmps55
  go_wp2
  go_loop [5, 11] (fun t i => ∃ k : Nat, k ≤ s.size ∧ i = .int .i64 k ∧ t = .int .u32 (ons (4294967295 - n) ((tx s).take k) : Nat)) (fun _ i => s.size - (intOf i).toNat)
  case atStart => exact ⟨0, Nat.zero_le _, rfl, val_u32 (flip_bits hn)⟩
  case round =>
    obtain ⟨k, hk, rfl, rfl⟩ := hrel
    have hx := ons_lt (r := 4294967295 - n) (by omega) ((tx s).take k)
    by_cases hlt : k < s.size
    · have HS := Lib.hid (ons_step (4294967295 - n) s k hlt)
      generalize ons (4294967295 - n) ((tx s).take k) = x at hx HS ⊢
      go_wp2_with fail
      refine (goOn_any x _ _ hx).mono ?_
      rintro e w' ⟨rfl, rfl⟩
      go_wp2
      go_round
      case rel => exact ⟨k + 1, by omega, by go_num, val_u32 (by rw [HS.out])⟩
      case measure => simp [intOf]; omega
    · have HS := Lib.hid (ons_all (4294967295 - n) s k (by omega))
      go_wp2
      go_ret
      exact ⟨ret_u32 (by rw [HM.out, ← HS.out, flip_bits hx]), rfl⟩
set_option maxHeartbeats 400000 in
theorem sum_any (s : ByteArray) (w : World) (hs : s.size ≤ maxLen) :
    Calls Tryd.prog 56 #[.string s] w fun e w' => e = .returned (.int .u32 (more 0 (tx s) : Nat)) ∧ w = w' := by
  go_enter Tryd.func56, Tryd.ntmps56
  go_wp2_with fail
  refine (more_any 0 s w (by decide) hs).mono ?_
  rintro e w' ⟨rfl, rfl⟩
  go_wp2
  go_ret
  exact ⟨rfl, rfl⟩
end Go.Proofs.YtcbeommmacnkgaaDoor
