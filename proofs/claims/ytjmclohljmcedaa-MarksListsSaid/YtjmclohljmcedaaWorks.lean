/-
  The contract of works: the chapter's examples come out.
-/
import Derived.Test.YtjmclohljmcedaaAll
namespace Go.Proofs.Ytjmclohljmcedaa
open Go.RowKit
open Go.Lib (uvarint zigzag unzigzag uvarint_small uvarint_big)
theorem mark_300 : mark 300 = [216, 4] := by
  show uvarint 600 = _
  rw [uvarint_big (by decide), uvarint_small (by decide)]; decide
theorem mark_m1 : mark (-1) = [1] := by
  show uvarint 1 = _
  rw [uvarint_small (by decide)]; decide
theorem mark_1 : mark 1 = [2] := by
  show uvarint 2 = _
  rw [uvarint_small (by decide)]; decide
theorem mark_2 : mark 2 = [4] := by
  show uvarint 4 = _
  rw [uvarint_small (by decide)]; decide
theorem mark_3 : mark 3 = [6] := by
  show uvarint 6 = _
  rw [uvarint_small (by decide)]; decide
theorem got_a : got (bytesOf ⟨#[216, 4, 9]⟩) 0 = some (300, 2) := by decide
theorem got_b : got (bytesOf ⟨#[216, 4, 9]⟩) 2 = some (-5, 3) := by decide
theorem got_c : got (bytesOf ⟨#[128, 0]⟩) 0 = none := by decide
theorem get_a (w : World) : Calls Try.prog 14 #[.string ⟨#[216, 4, 9]⟩, .int .i64 0] w fun e w' => e = .returned (.tuple #[.int .i64 300, .int .i64 2, .bool true]) ∧ w = w' :=
  (get_any _ 0 w (by decide)).mono fun e w' ⟨h1, h2⟩ => ⟨by rw [h2, got_a]; rfl, h1⟩
theorem get_b (w : World) : Calls Try.prog 14 #[.string ⟨#[216, 4, 9]⟩, .int .i64 2] w fun e w' => e = .returned (.tuple #[.int .i64 (-5), .int .i64 3, .bool true]) ∧ w = w' :=
  (get_any _ 2 w (by decide)).mono fun e w' ⟨h1, h2⟩ => ⟨by rw [h2, got_b]; rfl, h1⟩
theorem get_c (w : World) : Calls Try.prog 14 #[.string ⟨#[128, 0]⟩, .int .i64 0] w fun e w' => e = .returned (.tuple #[.int .i64 0, .int .i64 0, .bool false]) ∧ w = w' :=
  (get_any _ 0 w (by decide)).mono fun e w' ⟨h1, h2⟩ => ⟨by rw [h2, got_c]; rfl, h1⟩
theorem put_300 (w : World) : Calls Try.prog 11 #[.int .i64 300] w fun e w' => e = .returned (.string ⟨#[216, 4]⟩) ∧ Below w.heap.size w w' :=
  (put_any 300 w (by decide) (by decide)).mono fun e w' ⟨h1, h2⟩ => ⟨by rw [h1, mark_300], h2⟩
theorem put_m1 (w : World) : Calls Try.prog 11 #[.int .i64 (-1)] w fun e w' => e = .returned (.string ⟨#[1]⟩) ∧ Below w.heap.size w w' :=
  (put_any (-1) w (by decide) (by decide)).mono fun e w' ⟨h1, h2⟩ => ⟨by rw [h1, mark_m1], h2⟩
theorem putText_abc (w : World) : Calls Try.prog 18 #[.string ⟨#[97, 98, 99]⟩] w fun e w' => e = .returned (.string ⟨#[6, 97, 98, 99]⟩) ∧ Below w.heap.size w w' :=
  (putText_any _ w (by decide)).mono fun e w' ⟨h1, h2⟩ => ⟨by rw [h1, show markText (bytesOf ⟨#[97, 98, 99]⟩) = mark 3 ++ [97, 98, 99] from rfl, mark_3]; rfl, h2⟩
theorem putAll_two (w : World) (W : World) (hW : W = w.alloc (.cells #[.int .i64 1, .int .i64 (-1)] 3)) :
    Calls Try.prog 20 #[.slice (some ⟨w.heap.size, 0, none⟩) 2 2] W fun e w' => e = .returned (.string ⟨#[4, 2, 1]⟩) ∧ Below w.heap.size w w' := by
  subst hW
  have hi : Ints (w.alloc (.cells #[.int .i64 1, .int .i64 (-1)] 3)) (w.alloc (.cells #[.int .i64 1, .int .i64 (-1)] 3)).heap.size (.slice (some ⟨w.heap.size, 0, none⟩) 2 2) [1, -1] := by
    refine ⟨_, 2, rfl, by decide, fun _ => ⟨w.heap.size, 0, rfl, by simp, fun j hj => ?_⟩⟩
    rcases (show j = 0 ∨ j = 1 by simp at hj; omega) with rfl | rfl
    · simp [go_sem]
    · simp [go_sem]
  refine (putAll_any _ _ _ hi (fun n hn => by simp at hn; omega) (by decide)).mono fun e w' ⟨h1, h2⟩ => ⟨?_, ?_⟩
  · rw [h1, show markAll [1, -1] = mark 2 ++ (mark 1 ++ (mark (-1) ++ [])) from rfl, mark_1, mark_2, mark_m1]; rfl
  · exact ((Below.refl _ _).alloc (Nat.le_refl _) _).trans (h2.mono (by simp))
set_option maxRecDepth 100000 in
set_option maxHeartbeats 1000000 in
theorem works_any (w : World) : Calls Try.prog 13 #[] w fun e w' => e = .returned (.bool true) ∧ Below w.heap.size w w' := by
  go_enter Try.func13, Try.ntmps13
  go_wp2_with fail
  refine (get_a _).mono ?_
  rintro e w1 ⟨rfl, rfl⟩
  go_wp2_with fail
  refine (get_b _).mono ?_
  rintro e w1 ⟨rfl, rfl⟩
  go_wp2_with fail
  refine (get_c _).mono ?_
  rintro e w1 ⟨rfl, rfl⟩
  go_wp2_with fail
  refine (put_300 _).mono ?_
  rintro e w1 ⟨rfl, hb1⟩
  go_wp2_with fail
  refine (put_m1 _).mono ?_
  rintro e w2 ⟨rfl, hb2⟩
  go_wp2_with fail
  refine (putText_abc _).mono ?_
  rintro e w3 ⟨rfl, hb3⟩
  go_wp2_with fail
  refine (putAll_two w3 _ rfl).mono ?_
  rintro e w4 ⟨rfl, hb4⟩
  go_wp2_with fail
  go_ret
  have h12 := hb1.trans (hb2.mono hb1.size)
  have h13 := h12.trans (hb3.mono h12.size)
  exact ⟨rfl, h13.trans (hb4.mono h13.size)⟩
end Go.Proofs.Ytjmclohljmcedaa
