/-
  Clocks, and the document's beside them.
-/
import Derived.Test.YtljlighgjjiagaaKWorks
import Derived.Test.YtljlighgjjiagaaKRTick
namespace Go.Proofs.Ytljlighgjjiagaa
open Go.RowKit
/-- Clocks C at c, the document's R at r; all that was there at w0 is as it was. -/
def Two (w0 : World) (c r g : Nat) (C R : Clo.Cs) (w : World) : Prop := IsC w c C ∧ IsR w r g R ∧ c ≠ r ∧ c ≠ g ∧ w0.heap.size ≤ c ∧ w0.heap.size ≤ r ∧ w0.heap.size ≤ g ∧ Below w0.heap.size w0 w
section
variable {w0 w w' : World} {c r g : Nat} {C R : Clo.Cs}
theorem Two.bel (h : Two w0 c r g C R w) : Below w0.heap.size w0 w := h.2.2.2.2.2.2.2
theorem Two.drewN (h : Two w0 c r g C R w) (m : Nat) : Two w0 c r g C R (w.drewN m) := by
  obtain ⟨h1, h2, h3, h4, h5, h6, h7, h8⟩ := h
  exact ⟨h1.drewN m, h2.drewN m, h3, h4, h5, h6, h7, ⟨h8.os, h8.tape, h8.output, h8.size, h8.block⟩⟩
theorem two_tick (s : Int) (h : Hid (Two w0 c r g C R w)) {C' : Clo.Cs} {k : Int} (hR : Hid (Clo.ticked C s = (C', k))) : Calls Try.prog 11 #[.pointer (some ⟨c, 0, none⟩), .int .i64 s] w fun e w' => e = .returned (.int .i64 k) ∧ Hid (Two w0 c r g C' R w') := by
  obtain ⟨h1, h2, h3, h4, h5, h6, h7, h8⟩ := h.out
  refine (tick_any s h1).mono ?_
  rw [hR.out]
  rintro e w' ⟨g1, g2, g3⟩
  exact ⟨g1, g2, h2.foot g3 (fun e => h3 e.symm) (fun e => h4 e.symm), h3, h4, h5, h6, h7, h8.trans (g3.below fun k hk => ⟨Nat.lt_of_lt_of_le hk h8.size, fun e => by omega⟩)⟩
theorem two_rtick (s : Int) (h : Hid (Two w0 c r g C R w)) {R' : Clo.Cs} {k : Int} (hR : Hid (Clo.ticked R s = (R', k))) : Calls Try.prog 12 #[.pointer (some ⟨r, 0, none⟩), .int .i64 s] w fun e w' => e = .returned (.int .i64 k) ∧ Hid (Two w0 c r g C R' w') := by
  obtain ⟨h1, h2, h3, h4, h5, h6, h7, h8⟩ := h.out
  refine (rtick_any s h2).mono ?_
  rw [hR.out]
  rintro e w' ⟨g1, g2, g3⟩
  exact ⟨g1, h1.foot g3 (fun e => e.elim h3 h4), g2, h3, h4, h5, h6, h7, h8.trans (g3.below fun k hk => ⟨Nat.lt_of_lt_of_le hk h8.size, fun e => by omega⟩)⟩
theorem two_skew (h : Hid (Two w0 c r g C R w)) {k : Int} (hR : Hid (Clo.skew C.l = k)) : Calls Try.prog 13 #[.pointer (some ⟨c, 0, none⟩)] w fun e w' => e = .returned (.int .i64 k) ∧ Hid (Two w0 c r g C R w') := by
  refine (askew_any h.out.1).mono ?_
  rw [hR.out]
  rintro e w' ⟨h1, m, rfl⟩
  exact ⟨h1, h.out.drewN m⟩
theorem two_rskew (h : Hid (Two w0 c r g C R w)) {k : Int} (hR : Hid (Clo.skew R.l = k)) : Calls Try.prog 14 #[.pointer (some ⟨r, 0, none⟩)] w fun e w' => e = .returned (.int .i64 k) ∧ Hid (Two w0 c r g C R w') := by
  refine (rskew_any h.out.2.1).mono ?_
  rw [hR.out]
  rintro e w' ⟨h1, m, rfl⟩
  exact ⟨h1, h.out.drewN m⟩
theorem two_worst (h : Hid (Two w0 c r g C R w)) {k j : Int} (hR : Hid (C.w = k)) (hJ : Hid (R.w = j)) : Calls Try.prog 15 #[.pointer (some ⟨c, 0, none⟩)] w fun e w' => e = .returned (.int .i64 k) ∧ Hid (Two w0 c r g C R w') ∧ w'.cell? ⟨r, 1, none⟩ = some (.int .i64 j) := by
  refine (worst_any h.out.1).mono ?_
  rw [hR.out, ← hJ.out]
  rintro e w' ⟨h1, rfl⟩
  exact ⟨h1, h, h.out.2.1.w⟩
theorem two_at (s : Int) (h : Hid (Two w0 c r g C R w)) {k j : Int} (hR : Hid (Clo.at_ C s = (k, j))) : Calls Try.prog 16 #[.pointer (some ⟨c, 0, none⟩), .int .i64 s] w fun e w' => e = .returned (.tuple #[.int .i64 k, .int .i64 j]) ∧ w = w' := by
  refine (at_any s h.out.1).mono ?_
  rw [hR.out]
  exact fun _ _ h => h
theorem two_rat (s : Int) (h : Hid (Two w0 c r g C R w)) {k j : Int} (hR : Hid (Clo.at_ R s = (k, j))) : Calls Try.prog 17 #[.pointer (some ⟨r, 0, none⟩), .int .i64 s] w fun e w' => e = .returned (.tuple #[.int .i64 k, .int .i64 j]) ∧ w = w' := by
  refine (rat_any s h.out.2.1).mono ?_
  rw [hR.out]
  exact fun _ _ h => h
end
theorem two_new (n : Nat) (h1 : 2 ≤ n) (h2 : n ≤ 7) {w w1 : World} {c : Nat} (h : Hid (On w c (Clo.new n) w1)) : Calls Try.prog 9 #[.int .i64 (n : Int)] w1 fun e w' => ∃ r g, e = .returned (.tuple #[.pointer (some ⟨r, 0, none⟩), .int .i64 0]) ∧ Hid (Two w c r g (Clo.new n) (Clo.new n) w') := by
  refine (rnew_any n h1 h2 w1).mono ?_
  rintro e w' ⟨g1, g2, g3⟩
  have hs := h.out.2.2.size
  have hlt := h.out.1.lt
  exact ⟨_, _, g1, h.out.1.below g3, g2, by omega, by omega, h.out.2.1, by omega, by omega, h.out.2.2.trans (g3.mono hs)⟩
end Go.Proofs.Ytljlighgjjiagaa
