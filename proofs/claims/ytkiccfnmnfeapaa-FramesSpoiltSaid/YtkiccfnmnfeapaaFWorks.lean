/-
  The chapter's examples: works of the statements' package returns true.
-/
import Derived.Test.YtkiccfnmnfeapaaFSame
namespace Go.Proofs.Ytkiccfnmnfeapaa
open Go.RowKit
open Crc
theorem mark_one : mark 1 = [2] := by
  unfold mark
  rw [show Lib.zigzag 1 = 2 from rfl, Lib.uvarint_small (by decide)]; rfl
theorem frame_a : frameOf [97] = [2, 93, 87, 137, 69, 97] := by
  unfold frameOf checkNo
  rw [show ((([97] : List UInt8).length : Nat) : Int) = 1 from rfl, mark_one]
  decide +kernel
def Fa : ByteArray := ⟨#[2, 93, 87, 137, 69, 97]⟩
theorem ends_a (w : World) : Calls Try.prog 10 #[.string ⟨#[97]⟩] w fun e w' => e = .returned (.tuple #[.string ⟨#[2, 93, 87, 137, 69, 97]⟩, .int .i64 0]) ∧ Below w.heap.size w w' :=
  (frame_any ⟨#[97]⟩ w (by unfold maxLen; decide)).mono fun e w' ⟨h1, h2⟩ => ⟨by
    rw [h1, show tx ⟨#[97]⟩ = [97] from rfl]
    unfold frameR
    rw [if_neg (by decide), frame_a], h2⟩
theorem next_a : nextOf [2, 93, 87, 137, 69, 97] 0 = some ([97], 6) := by
  have := next_at (x := []) (p := [97]) (by decide) []
  rw [frame_a] at this
  exact this
theorem next_b : nextOf [2, 93, 87, 137, 69, 97] 1 = none := by decide +kernel
theorem next_a_any (w : World) : Calls Try.prog 13 #[.string ⟨#[2, 93, 87, 137, 69, 97]⟩, .int .i64 0] w fun e w' => e = .returned (.tuple #[.string ⟨#[97]⟩, .int .i64 6, .bool true]) ∧ Below w.heap.size w w' :=
  (next_any ⟨#[2, 93, 87, 137, 69, 97]⟩ 0 w (by decide)).mono fun e w' ⟨h1, h2⟩ => ⟨by
    rw [h2, show bytesOf ⟨#[2, 93, 87, 137, 69, 97]⟩ = [2, 93, 87, 137, 69, 97] from rfl, next_a]; rfl, h1⟩
theorem next_b_any (w : World) : Calls Try.prog 13 #[.string ⟨#[2, 93, 87, 137, 69, 97]⟩, .int .i64 1] w fun e w' => e = .returned (.tuple #[.string ⟨#[]⟩, .int .i64 0, .bool false]) ∧ Below w.heap.size w w' :=
  (next_any ⟨#[2, 93, 87, 137, 69, 97]⟩ 1 w (by decide)).mono fun e w' ⟨h1, h2⟩ => ⟨by
    rw [h2, show bytesOf ⟨#[2, 93, 87, 137, 69, 97]⟩ = [2, 93, 87, 137, 69, 97] from rfl, next_b]; rfl, h1⟩
theorem whole_a : IsWhole [2, 93, 87, 137, 69, 97, 2, 93, 87, 137, 69, 97, 2, 93, 87] [[97], [97]] 12 := by
  have h := whole_cut (ps := [[97], [97], [97]]) (cut := 15) (m := 2) (fun p hp => by simp at hp; subst hp; decide)
  simp only [List.take_succ_cons, List.take_zero, flat_cons, flat_nil, frame_a, List.append_nil, List.cons_append, List.nil_append] at h
  exact h (by decide) (.inr (by decide))
theorem whole_a_any (w : World) : Calls Try.prog 15 #[.string ⟨#[2, 93, 87, 137, 69, 97, 2, 93, 87, 137, 69, 97, 2, 93, 87]⟩] w fun e w' => ∃ v, e = .returned (.tuple #[v, .int .i64 12]) ∧ textRow w' w.heap.size v [[97], [97]] ∧ Below w.heap.size w w' :=
  (whole_any ⟨#[2, 93, 87, 137, 69, 97, 2, 93, 87, 137, 69, 97, 2, 93, 87]⟩ w (by decide)).mono fun e w' ⟨ps, k, v, h1, h2, h3, h4⟩ => by
    obtain ⟨rfl, rfl⟩ := whole_one h2 whole_a
    exact ⟨v, h1, h3, h4⟩
theorem zeros_facts (w : World) : ∃ Z w1, (Instr.makeSlice 39 (.int .i64 8193) (.int .i64 8193)).run Try.prog w = .ok (.slice (some ⟨w.heap.size, 0, none⟩) 8193 8193) w1 ∧
    (convert 39 9 (.slice (some ⟨w.heap.size, 0, none⟩) 8193 8193)).run Try.prog w1 = .ok (.string Z) w1 ∧ Z.size = 8193 ∧ Below w.heap.size w w1 := by
  obtain ⟨i0, hi, hz0, hz1, hz2⟩ := info_parts Try.info_u8
  obtain ⟨w1, hmk, hown, hgr⟩ := run_make_full (P := Try.prog) w w.heap.size 39 5 i0 (.int .u8 0) 1 Try.underlying39 hi hz0 hz1 .i64 .i64 8193 (by rw [hz2]; omega) (by unfold maxLen; omega) (Nat.le_refl _)
  have hb1 : Below w.heap.size w w1 := (Below.refl _ _).grown hgr (Nat.le_refl _) (fun k hk => by cases hk)
  have hby : Bytes w1 w.heap.size (.slice (some ⟨w.heap.size, 0, none⟩) 8193 8193) (List.replicate 8193 0) := by
    unfold Bytes
    rw [List.length_replicate, show (List.replicate 8193 (0 : UInt8)).map byteV = (madeCells (Value.int .u8 0).cells (8193 * 1)).toList from by
      rw [show (Value.int .u8 0).cells = #[.int .u8 0] from rfl, toList_madeCells_one, List.map_replicate]; rfl]
    exact hown
  refine ⟨⟨(List.replicate 8193 0).toArray⟩, w1, hmk, conv_bytes hby, ?_, hb1⟩
  show (List.replicate 8193 (0 : UInt8)).toArray.size = 8193
  rw [List.size_toArray, List.length_replicate]
theorem long_any (Z : ByteArray) (hZ : Z.size = 8193) (w : World) : Calls Try.prog 10 #[.string Z] w fun e w' => e = .returned (.tuple #[.string ⟨#[]⟩, .int .i64 3]) ∧ Below w.heap.size w w' :=
  (frame_any Z w (by unfold maxLen; omega)).mono fun e w' ⟨h1, h2⟩ => ⟨by
    rw [h1]
    unfold frameR
    rw [if_pos (by rw [tx_len]; omega)], h2⟩
theorem same_two (w W : World) (hW : W = w.alloc (.cells #[.string ⟨#[97]⟩, .string ⟨#[97]⟩] 9)) {base : Nat} {v : Value} (hv : textRow w base v [[97], [97]]) :
    Calls Try.prog 17 #[v, .slice (some ⟨w.heap.size, 0, none⟩) 2 2] W fun e w' => e = .returned (.bool true) ∧ Below w.heap.size w w' := by
  subst hW
  have hb := (Below.refl w.heap.size w).alloc (Nat.le_refl _) (.cells #[.string ⟨#[97]⟩, .string ⟨#[97]⟩] 9)
  have hi : Texts (w.alloc (.cells #[.string ⟨#[97]⟩, .string ⟨#[97]⟩] 9)) (w.alloc (.cells #[.string ⟨#[97]⟩, .string ⟨#[97]⟩] 9)).heap.size (.slice (some ⟨w.heap.size, 0, none⟩) 2 2) [[97], [97]] := by
    refine ⟨_, 2, rfl, by decide, fun _ => ⟨w.heap.size, 0, rfl, by simp, fun j hj => ?_⟩⟩
    rcases (show j = 0 ∨ j = 1 by simp at hj; omega) with rfl | rfl
    · simp [go_sem, textV]
    · simp [go_sem, textV]
  refine (same_any _ _ _ _ _ _ ((Texts.own hv).keep hb (Nat.le_refl _)) hi (by decide)).mono fun e w' ⟨h1, h2⟩ => ⟨h1, hb.trans (h2 _)⟩
set_option maxRecDepth 100000 in
set_option maxHeartbeats 1000000 in
theorem works_any (w : World) : Calls Try.prog 12 #[] w fun e w' => e = .returned (.bool true) ∧ Below w.heap.size w w' := by
  go_enter Try.func12, Try.ntmps12
  go_wp2_with fail
  refine (ends_a _).mono ?_
  rintro e w1 ⟨rfl, hb1⟩
  go_wp2_with fail
  refine (next_a_any _).mono ?_
  rintro e w2 ⟨rfl, hb2⟩
  have h2 := hb1.trans (hb2.mono hb1.size)
  go_wp2_with fail
  refine (next_b_any _).mono ?_
  rintro e w3 ⟨rfl, hb3⟩
  have h3 := h2.trans (hb3.mono h2.size)
  go_wp2_with fail
  refine (whole_a_any _).mono ?_
  rintro e w4 ⟨v, rfl, hr4, hb4⟩
  have h4 := h3.trans (hb4.mono h3.size)
  have HR4 := Lib.hid hr4
  clear hr4
  obtain ⟨Z, w5, f1, f2, hZ, hb5⟩ := zeros_facts w4
  have h5 := h4.trans (hb5.mono h4.size)
  have HZ := Lib.hid hZ
  clear hZ
  go_wp2_with fail
  clear f1 f2
  refine (long_any Z HZ.out _).mono ?_
  rintro e w6 ⟨rfl, hb6⟩
  have h6 := h5.trans (hb6.mono h5.size)
  have HR := Lib.hid ((HR4.out.keep hb5).keep hb6)
  go_wp2_with fail
  refine (same_two w6 _ rfl HR.out).mono ?_
  rintro e w7 ⟨rfl, hb7⟩
  have h7 := h6.trans (hb7.mono h6.size)
  go_wp2_with fail
  go_ret
  exact ⟨rfl, h7⟩
end Go.Proofs.Ytkiccfnmnfeapaa
