/-
  Clocks made behind a world of which all is as it was; the chapter's example.
-/
import Derived.Test.YtljlighgjjiagaaKTick
namespace Go.Proofs.Ytljlighgjjiagaa
open Go.RowKit
/-- Clocks that were made behind w0, of which all is as it was. -/
def On (w0 : World) (c : Nat) (C : Clo.Cs) (w : World) : Prop := IsC w c C ∧ w0.heap.size ≤ c ∧ Below w0.heap.size w0 w
section
variable {w0 w w' : World} {c : Nat} {C : Clo.Cs}
theorem On.drewN (h : On w0 c C w) (m : Nat) : On w0 c C (w.drewN m) := ⟨h.1.drewN m, h.2.1, ⟨h.2.2.os, h.2.2.tape, h.2.2.output, h.2.2.size, h.2.2.block⟩⟩
theorem On.below (h : On w0 c C w) (hb : Below w.heap.size w w') : On w0 c C w' := ⟨h.1.below hb, h.2.1, h.2.2.trans (hb.mono h.2.2.size)⟩
theorem on_tick (s : Int) (h : Hid (On w0 c C w)) {C' : Clo.Cs} {r : Int} (hR : Clo.ticked C s = (C', r)) : Calls Try.prog 11 #[.pointer (some ⟨c, 0, none⟩), .int .i64 s] w fun e w' => e = .returned (.int .i64 r) ∧ Hid (On w0 c C' w') := by
  refine (tick_any s h.out.1).mono ?_
  rw [hR]
  rintro e w' ⟨h1, h2, h3⟩
  exact ⟨h1, h2, h.out.2.1, h.out.2.2.trans (h3.below fun k hk => ⟨Nat.lt_of_lt_of_le hk h.out.2.2.size, fun e => by have := h.out.2.1; omega⟩)⟩
theorem on_at (s : Int) (h : Hid (On w0 c C w)) {x r : Int} (hR : Clo.at_ C s = (x, r)) : Calls Try.prog 16 #[.pointer (some ⟨c, 0, none⟩), .int .i64 s] w fun e w' => e = .returned (.tuple #[.int .i64 x, .int .i64 r]) ∧ Hid (On w0 c C w') := by
  refine (at_any s h.out.1).mono ?_
  rw [hR]
  rintro e w' ⟨h1, rfl⟩
  exact ⟨h1, h⟩
theorem on_skew (h : Hid (On w0 c C w)) {k : Int} (hR : Clo.skew C.l = k) : Calls Try.prog 13 #[.pointer (some ⟨c, 0, none⟩)] w fun e w' => e = .returned (.int .i64 k) ∧ Hid (On w0 c C w') := by
  refine (askew_any h.out.1).mono ?_
  rw [hR]
  rintro e w' ⟨h1, m, rfl⟩
  exact ⟨h1, h.out.drewN m⟩
theorem on_worst (h : Hid (On w0 c C w)) {k : Int} (hR : C.w = k) : Calls Try.prog 15 #[.pointer (some ⟨c, 0, none⟩)] w fun e w' => e = .returned (.int .i64 k) ∧ Hid (On w0 c C w') := by
  refine (worst_any h.out.1).mono ?_
  rw [hR]
  rintro e w' ⟨h1, rfl⟩
  exact ⟨h1, h⟩
end
theorem on_new (n : Nat) (h1 : 2 ≤ n) (h2 : n ≤ 7) (w : World) : Calls Try.prog 8 #[.int .i64 (n : Int)] w fun e w' => ∃ c, e = .returned (.tuple #[.pointer (some ⟨c, 0, none⟩), .int .i64 0]) ∧ Hid (On w c (Clo.new n) w') := by
  refine (new_any n h1 h2 w).mono ?_
  rintro e w' ⟨h1, h2, h3⟩
  exact ⟨_, h1, h2, Nat.le_refl _, h3⟩
theorem ex0 : Clo.new 3 = ⟨[0, 0, 0], 0⟩ := rfl
set_option maxRecDepth 100000 in
set_option maxHeartbeats 2000000 in
theorem works_any (w : World) : Calls Try.prog 10 #[] w fun e w' => e = .returned (.bool true) ∧ Below w.heap.size w w' := by
  have HN := Lib.hid (on_new 3 (by decide) (by decide) w)
  rw [ex0] at HN
  go_enter Try.func10, Try.ntmps10
  go_wp2_with fail
  refine HN.out.mono ?_
  rintro e w1 ⟨c, rfl, H1⟩
  go_wp2_with fail
  refine (on_tick 0 H1 (C' := ⟨[1, 0, 0], 1⟩) (r := 0) (by kernel_rfl)).mono ?_
  rintro e w2 ⟨rfl, H2⟩
  go_wp2_with fail
  refine (on_tick 0 H2 (C' := ⟨[2, 0, 0], 2⟩) (r := 0) (by kernel_rfl)).mono ?_
  rintro e w3 ⟨rfl, H3⟩
  go_wp2_with fail
  refine (on_tick 2 H3 (C' := ⟨[2, 0, 1], 2⟩) (r := 0) (by kernel_rfl)).mono ?_
  rintro e w4 ⟨rfl, H4⟩
  go_wp2_with fail
  refine (on_at 0 H4 (x := 2) (r := 0) (by kernel_rfl)).mono ?_
  rintro e w5 ⟨rfl, H5⟩
  go_wp2_with fail
  refine (on_skew H5 (k := 2) (by kernel_rfl)).mono ?_
  rintro e w6 ⟨rfl, H6⟩
  go_wp2_with fail
  refine (on_worst H6 (k := 2) rfl).mono ?_
  rintro e w7 ⟨rfl, H7⟩
  go_wp2_with fail
  refine (on_tick 1 H7 (C' := ⟨[2, 1, 1], 2⟩) (r := 0) (by kernel_rfl)).mono ?_
  rintro e w8 ⟨rfl, H8⟩
  go_wp2_with fail
  refine (on_tick 1 H8 (C' := ⟨[2, 2, 1], 2⟩) (r := 0) (by kernel_rfl)).mono ?_
  rintro e w9 ⟨rfl, H9⟩
  go_wp2_with fail
  refine (on_skew H9 (k := 1) (by kernel_rfl)).mono ?_
  rintro e w10 ⟨rfl, H10⟩
  go_wp2_with fail
  refine (on_worst H10 (k := 2) rfl).mono ?_
  rintro e w11 ⟨rfl, H11⟩
  go_wp2_with fail
  refine (on_tick 3 H11 (C' := ⟨[2, 2, 1], 2⟩) (r := 2) (by kernel_rfl)).mono ?_
  rintro e w12 ⟨rfl, H12⟩
  go_wp2_with fail
  go_ret
  exact ⟨rfl, H12.out.2.2⟩
end Go.Proofs.Ytljlighgjjiagaa
