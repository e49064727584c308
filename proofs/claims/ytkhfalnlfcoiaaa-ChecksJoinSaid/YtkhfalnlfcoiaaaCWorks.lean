/-
  The contract of the works of the statements of checks: the chapter's examples come out.
-/
import Derived.Test.YtkhfalnlfcoiaaaCLess
namespace Go.Proofs.Ytkhfalnlfcoiaaa
open Go.RowKit
open Crc
theorem crc_1234 : more 0 (tx ⟨#[49, 50, 51, 52]⟩) = 4131058926 := by decide +kernel
theorem crc_all : more 0 (tx ⟨#[49, 50, 51, 52, 53, 54, 55, 56, 57]⟩) = 3808858755 := by decide +kernel
theorem crc_a : more 0 (tx ⟨#[97]⟩) = 3251651376 := by decide +kernel
theorem crc_rest : more 4131058926 (tx ⟨#[53, 54, 55, 56, 57]⟩) = 3808858755 := by decide +kernel
theorem crc_back : less 3808858755 (tx ⟨#[53, 54, 55, 56, 57]⟩) = 4131058926 := by decide +kernel
theorem sum_1234 (w : World) : Calls Try.prog 10 #[.string ⟨#[49, 50, 51, 52]⟩] w fun e w' => e = .returned (.int .u32 4131058926) ∧ w = w' :=
  (sum_any _ w (by decide)).mono fun e w' ⟨h1, h2⟩ => ⟨by rw [h1, crc_1234]; rfl, h2⟩
theorem sum_all (w : World) : Calls Try.prog 10 #[.string ⟨#[49, 50, 51, 52, 53, 54, 55, 56, 57]⟩] w fun e w' => e = .returned (.int .u32 3808858755) ∧ w = w' :=
  (sum_any _ w (by decide)).mono fun e w' ⟨h1, h2⟩ => ⟨by rw [h1, crc_all]; rfl, h2⟩
theorem sum_a (w : World) : Calls Try.prog 10 #[.string ⟨#[97]⟩] w fun e w' => e = .returned (.int .u32 3251651376) ∧ w = w' :=
  (sum_any _ w (by decide)).mono fun e w' ⟨h1, h2⟩ => ⟨by rw [h1, crc_a]; rfl, h2⟩
theorem more_rest (w : World) : Calls Try.prog 12 #[.int .u32 4131058926, .string ⟨#[53, 54, 55, 56, 57]⟩] w fun e w' => e = .returned (.int .u32 3808858755) ∧ w = w' :=
  (more_any 4131058926 _ w (by decide) (by decide)).mono fun e w' ⟨h1, h2⟩ => ⟨by rw [h1, crc_rest]; rfl, h2⟩
theorem less_rest (w : World) : Calls Try.prog 15 #[.int .u32 3808858755, .string ⟨#[53, 54, 55, 56, 57]⟩] w fun e w' => e = .returned (.int .u32 4131058926) ∧ Below w.heap.size w w' :=
  (less_any 3808858755 _ w (by decide) (by decide)).mono fun e w' ⟨h1, h2⟩ => ⟨by rw [h1, crc_back]; rfl, h2⟩
set_option maxRecDepth 100000 in
set_option maxHeartbeats 1000000 in
theorem works_any (w : World) : Calls Try.prog 14 #[] w fun e w' => e = .returned (.bool true) ∧ Below w.heap.size w w' := by
  go_enter Try.func14, Try.ntmps14
  go_wp2_with fail
  refine (sum_1234 _).mono ?_
  rintro e w1 ⟨rfl, rfl⟩
  go_wp2_with fail
  refine (sum_all _).mono ?_
  rintro e w1 ⟨rfl, rfl⟩
  go_wp2_with fail
  refine (sum_a _).mono ?_
  rintro e w1 ⟨rfl, rfl⟩
  go_wp2_with fail
  refine (more_rest _).mono ?_
  rintro e w1 ⟨rfl, rfl⟩
  go_wp2_with fail
  refine (less_rest _).mono ?_
  rintro e w1 ⟨rfl, hb⟩
  go_wp2_with fail
  go_ret
  exact ⟨rfl, hb⟩
end Go.Proofs.Ytkhfalnlfcoiaaa
