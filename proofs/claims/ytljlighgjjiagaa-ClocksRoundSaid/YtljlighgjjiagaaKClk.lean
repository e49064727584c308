/-
  Clocks in memory; the contracts of none, At, Skew, Worst, New.
-/
import Derived.Test.YtljlighgjjiagaaKMax
import Derived.Test.YtljlighgjjiagaaDQuiet
namespace Go.Proofs.Ytljlighgjjiagaa
open Go.RowKit
/-- The seven cells of the array. -/
def clkRow (l : List Int) : List Int := l ++ List.replicate (7 - l.length) 0
theorem clkRow_len {l : List Int} (h : l.length ≤ 7) : (clkRow l).length = 7 := by simp [clkRow]; omega
theorem clkRow_at {l : List Int} {i : Nat} (h : i < l.length) : (clkRow l)[i]? = some (l.getD i 0) := by
  unfold clkRow
  rw [List.getElem?_append_left h, List.getD, List.getElem?_eq_getElem h]; rfl
theorem clkRow_set {l : List Int} {i : Nat} (h : i < l.length) (y : Int) : clkRow (l.set i y) = (clkRow l).set i y := by
  unfold clkRow
  rw [List.length_set, List.set_append_left _ _ h]
def clkCells (C : Clo.Cs) : List Value := .int .i64 (C.l.length : Int) :: ((clkRow C.l).map (Value.int .i64) ++ [.int .i64 C.w])
/-- The pointer c holds these clocks. -/
structure IsC (w : World) (c : Nat) (C : Clo.Cs) : Prop where
  heap : w.heap[c]? = some (.cells (clkCells C).toArray 40 (0, 0))
  good : Clo.Good C
theorem IsC.lt {w : World} {c : Nat} {C : Clo.Cs} (h : IsC w c C) : c < w.heap.size := lt_of_block h.heap
theorem IsC.below {w w' : World} {c : Nat} {C : Clo.Cs} (h : IsC w c C) (hb : Below w.heap.size w w') : IsC w' c C := ⟨(below_foot hb : Foot (fun _ => False) w w').kept h.heap fun e => e, h.good⟩
theorem IsC.foot {w w' : World} {c : Nat} {C : Clo.Cs} {S : Nat → Prop} (h : IsC w c C) (hb : Foot S w w') (hn : ¬ S c) : IsC w' c C := ⟨hb.kept h.heap hn, h.good⟩
theorem IsC.n {w : World} {c : Nat} {C : Clo.Cs} (h : IsC w c C) : w.cell? ⟨c, 0, none⟩ = some (.int .i64 (C.l.length : Int)) := by
  rw [cell_of_row w c _ _ _ _ h.heap]; rfl
theorem IsC.at_ {w : World} {c : Nat} {C : Clo.Cs} (h : IsC w c C) {i : Nat} (hi : i < C.l.length) : w.cell? ⟨c, 1 + i, none⟩ = some (.int .i64 (C.l.getD i 0)) := by
  rw [cell_of_row w c _ _ _ _ h.heap]
  have h7 := clkRow_len h.good.n7
  have hi7 : i < 7 := Nat.lt_of_lt_of_le hi h.good.n7
  rw [Nat.add_comm]
  simp only [clkCells, List.getElem?_toArray, List.getElem?_cons_succ]
  rw [List.getElem?_append_left (by rw [List.length_map, h7]; exact hi7), List.getElem?_map, clkRow_at hi]; rfl
theorem IsC.w {w : World} {c : Nat} {C : Clo.Cs} (h : IsC w c C) : w.cell? ⟨c, 8, none⟩ = some (.int .i64 C.w) := by
  rw [cell_of_row w c _ _ _ _ h.heap]
  have h7 := clkRow_len h.good.n7
  simp only [clkCells, List.getElem?_toArray, List.getElem?_cons_succ]
  rw [List.getElem?_append_right (by rw [List.length_map, h7]; exact Nat.le_refl 7), List.length_map, h7]; rfl
theorem IsC.frozen {w : World} {c : Nat} {C : Clo.Cs} (h : IsC w c C) (o : Nat) : w.frozen? ⟨c, o, none⟩ = false := frozen_of_row w c o _ _ h.heap
theorem IsC.ints {w : World} {c : Nat} {C : Clo.Cs} (h : IsC w c C) : Ints w (.slice (some ⟨c, 1, none⟩) C.l.length 7) C.l :=
  ⟨_, 7, rfl, h.good.n7, by decide, fun e => (by cases e), fun _ => ⟨c, 1, rfl, h.lt, fun j hj => h.at_ hj⟩⟩
theorem IsC.all {w : World} {c : Nat} {C : Clo.Cs} (h : IsC w c C) : ∃ x0 x1 x2 x3 x4 x5 x6, w.cell? ⟨c, 1, none⟩ = some (.int .i64 x0) ∧ w.cell? ⟨c, 2, none⟩ = some (.int .i64 x1) ∧ w.cell? ⟨c, 3, none⟩ = some (.int .i64 x2) ∧ w.cell? ⟨c, 4, none⟩ = some (.int .i64 x3) ∧ w.cell? ⟨c, 5, none⟩ = some (.int .i64 x4) ∧ w.cell? ⟨c, 6, none⟩ = some (.int .i64 x5) ∧ w.cell? ⟨c, 7, none⟩ = some (.int .i64 x6) := by
  have h7 := clkRow_len h.good.n7
  have hc := fun o => cell_of_row w c o _ _ _ h.heap
  unfold clkCells at hc
  generalize clkRow C.l = r at *
  match r, h7 with
  | [x0, x1, x2, x3, x4, x5, x6], _ => exact ⟨x0, x1, x2, x3, x4, x5, x6, hc 1, hc 2, hc 3, hc 4, hc 5, hc 6, hc 7⟩
theorem len7 : Try.prog.arrayLen 38 = 7 := by kernel_rfl
theorem elem7 : Try.prog.elem 38 = 3 := by kernel_rfl
theorem cut7 (N : Nat) (h : N ≤ 7) (w : World) (b : Nat) : (Instr.sliceAt 38 (.pointer (some ⟨b, 1, none⟩)) none (some (.int .i64 (N : Int))) none).run Try.prog w = .ok (.slice (some ⟨b, 1, none⟩) N 7) w := by
  rw [run_sliceAt_array_h (P := Try.prog) w 38 ⟨b, 1, none⟩ (by kernel_rfl) .i64 (N : Int) (by omega) (by rw [len7]; omega), elem7, Try.sizeOf3]
  simp [Result.andThen, slicedAt, len7, Addr.add]
set_option maxRecDepth 100000 in
set_option maxHeartbeats 1000000 in
theorem none_any {w : World} {c : Nat} {C : Clo.Cs} (h : IsC w c C) : Calls Try.prog 22 #[.pointer (some ⟨c, 0, none⟩)] w fun e w' => e = .returned (.bool false) ∧ w = w' := by
  have c0 := h.n
  have c8 := h.w
  have hn := h.good.n2
  obtain ⟨x0, x1, x2, x3, x4, x5, x6, c1, c2, c3, c4, c5, c6, c7⟩ := h.all
  generalize C.l.length = n at *
  clear h
  go_enter Try.func22, Try.ntmps22
  go_wp2
  go_ret
  exact ⟨rfl, rfl⟩
set_option maxRecDepth 100000 in
set_option maxHeartbeats 1000000 in
theorem worst_any {w : World} {c : Nat} {C : Clo.Cs} (h : IsC w c C) : Calls Try.prog 15 #[.pointer (some ⟨c, 0, none⟩)] w fun e w' => e = .returned (.int .i64 C.w) ∧ w = w' := by
  have c8 := h.w
  have HN := Lib.hid (none_any h)
  clear h
  go_enter Try.func15, Try.ntmps15
  go_wp2_with fail
  refine HN.out.mono ?_
  rintro e w1 ⟨rfl, rfl⟩
  go_wp2
  go_ret
  exact ⟨rfl, rfl⟩
set_option maxRecDepth 100000 in
set_option maxHeartbeats 1000000 in
theorem at_any {w : World} {c : Nat} {C : Clo.Cs} (s : Int) (h : IsC w c C) : Calls Try.prog 16 #[.pointer (some ⟨c, 0, none⟩), .int .i64 s] w fun e w' => e = .returned (.tuple #[.int .i64 (Clo.at_ C s).1, .int .i64 (Clo.at_ C s).2]) ∧ w = w' := by
  have c0 := h.n
  have HN := Lib.hid (none_any h)
  have hn := h.good.n7
  rcases Clo.site_split s C.l.length with ⟨i, rfl, hi⟩ | hs
  · have ci := h.at_ hi
    have HE := Lib.hid (Clo.at_ok hi)
    have hi7 : i < 7 := by omega
    generalize C.l.getD i 0 = y at *
    generalize C.l.length = n at *
    clear h
    go_enter Try.func16, Try.ntmps16
    go_wp2_with fail
    refine HN.out.mono ?_
    rintro e w1 ⟨rfl, rfl⟩
    go_wp2
    go_ret2
    exact ⟨by rw [HE.out]; rfl, rfl⟩
  · have HE := Lib.hid (Clo.at_no hs)
    have hs' : s < 0 ∨ (0 ≤ s ∧ (C.l.length : Int) ≤ s) := by omega
    generalize C.l.length = n at *
    clear h hs
    rcases hs' with g | ⟨g, g'⟩
    · go_enter Try.func16, Try.ntmps16
      go_wp2_with fail
      refine HN.out.mono ?_
      rintro e w1 ⟨rfl, rfl⟩
      go_wp2
      go_ret2
      exact ⟨by rw [HE.out]; rfl, rfl⟩
    · go_enter Try.func16, Try.ntmps16
      go_wp2_with fail
      refine HN.out.mono ?_
      rintro e w1 ⟨rfl, rfl⟩
      go_wp2
      go_ret2
      exact ⟨by rw [HE.out]; rfl, rfl⟩
theorem IsC.drewN {w : World} {c : Nat} {C : Clo.Cs} (h : IsC w c C) (m : Nat) : IsC (w.drewN m) c C := ⟨h.heap, h.good⟩
theorem cskew_any {w : World} {c : Nat} {C : Clo.Cs} (h : IsC w c C) : ∀ m, Calls Try.prog 21 #[.slice (some ⟨c, 1, none⟩) C.l.length 7] (w.drewN m) fun e w' => e = .returned (.int .i64 (Clo.skew C.l)) ∧ ∃ n, w' = w.drewN n := fun m =>
  (skew_any _ C.l _ (h.drewN m).ints (by have := h.good.n2; omega) (by have := h.good.n7; omega) h.good.r).mono fun e w' ⟨h1, h2⟩ => ⟨h1, m, h2.symm⟩
set_option maxRecDepth 100000 in
set_option maxHeartbeats 1000000 in
theorem askew_any {w : World} {c : Nat} {C : Clo.Cs} (h : IsC w c C) : Calls Try.prog 13 #[.pointer (some ⟨c, 0, none⟩)] w fun e w' => e = .returned (.int .i64 (Clo.skew C.l)) ∧ ∃ n, w' = w.drewN n := by
  have c0 := h.n
  have HN := Lib.hid (none_any h)
  have hn := h.good.n7
  have hn2 := h.good.n2
  have hcut := fun X b => cut7 C.l.length hn X b
  have HS := Lib.hid (cskew_any h)
  generalize C.l.length = n at *
  clear h
  go_enter Try.func13, Try.ntmps13
  go_wp2_with fail
  refine HN.out.mono ?_
  rintro e w1 ⟨rfl, rfl⟩
  go_wp2_with fail
  go_quiet ((go_at_call 21; exact HS.out _))
  go_wp2
  go_ret
  exact ⟨rfl, _, rfl⟩
end Go.Proofs.Ytljlighgjjiagaa
