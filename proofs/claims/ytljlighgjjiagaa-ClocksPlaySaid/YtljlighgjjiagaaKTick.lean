/-
  The contracts of Tick and New; of clocks that are none.
-/
import Derived.Test.YtljlighgjjiagaaKClk
namespace Go.Proofs.Ytljlighgjjiagaa
open Go.RowKit
theorem IsC.set {w : World} {c : Nat} {C : Clo.Cs} (h : IsC w c C) {i : Nat} (hi : i < C.l.length) (y : Int) (hg : Clo.Good ⟨C.l.set i y, C.w⟩) : IsC (w.setCell ⟨c, 1 + i, none⟩ (.int .i64 y)) c ⟨C.l.set i y, C.w⟩ := by
  refine ⟨(heap_setCell_same w c _ _ _ _ h.heap).trans ?_, hg⟩
  have h7 := clkRow_len h.good.n7
  have hi7 := h.good.n7
  have e : clkCells ⟨C.l.set i y, C.w⟩ = (clkCells C).set (1 + i) (.int .i64 y) := by
    unfold clkCells
    rw [clkRow_set hi, List.length_set, Nat.add_comm 1 i, List.set_cons_succ, List.set_append_left _ _ (by rw [List.length_map, h7]; omega), List.map_set]
  rw [e, List.setIfInBounds_toArray]
theorem IsC.setW {w : World} {c : Nat} {C : Clo.Cs} (h : IsC w c C) (y : Int) (hg : Clo.Good ⟨C.l, y⟩) : IsC (w.setCell ⟨c, 8, none⟩ (.int .i64 y)) c ⟨C.l, y⟩ := by
  refine ⟨(heap_setCell_same w c _ _ _ _ h.heap).trans ?_, hg⟩
  have h7 := clkRow_len h.good.n7
  have e : clkCells ⟨C.l, y⟩ = (clkCells C).set 8 (.int .i64 y) := by
    unfold clkCells
    rw [List.set_cons_succ, List.set_append_right _ _ (by rw [List.length_map, h7]; exact Nat.le_refl 7), List.length_map, h7]; rfl
  rw [e, List.setIfInBounds_toArray]
/-- What Tick leaves. -/
def Ticks (w : World) (c : Nat) (R : Clo.Cs × Int) (e : Ending) (w' : World) : Prop := e = .returned (.int .i64 R.2) ∧ IsC w' c R.1 ∧ Foot (fun k => k = c) w w'
set_option maxRecDepth 100000 in
set_option maxHeartbeats 1000000 in
theorem tick_any {w : World} {c : Nat} {C : Clo.Cs} (s : Int) (h : IsC w c C) : Calls Try.prog 11 #[.pointer (some ⟨c, 0, none⟩), .int .i64 s] w (Ticks w c (Clo.ticked C s)) := by
  have HA := Lib.hid (at_any s h)
  rcases Clo.site_split s C.l.length with ⟨i, rfl, hi⟩ | hs
  · rw [Clo.at_ok hi] at HA
    have hgi := h.good.at_ hi
    by_cases hm : C.l.getD i 0 = 1073741824
    · have HE := Lib.hid (Clo.ticked_full hi hm)
      rw [hm] at HA
      have HF := Lib.hid h
      clear h hm hgi
      go_enter Try.func11, Try.ntmps11
      go_wp2_with fail
      refine HA.out.mono ?_
      rintro e w1 ⟨rfl, rfl⟩
      go_wp2
      go_ret
      exact ⟨by rw [HE.out]; rfl, by rw [HE.out]; exact HF.out, Foot.refl _ _⟩
    · have HE := Lib.hid (Clo.ticked_ok hi hm)
      have HT := Lib.hid (h.good.tick hi hm)
      have g1 : Clo.Good ⟨C.l.set i (C.l.getD i 0 + 1), C.w⟩ := ⟨by simpa using h.good.n2, by simpa using h.good.n7, fun x hx' => by
        rcases Clo.set_mem hx' with e | e
        · omega
        · exact h.good.r x e, h.good.w0, h.good.w1⟩
      have h1 := h.set hi _ g1
      have h2 := Lib.hid (fun m => (h1.drewN m).setW _ HT.out)
      have c0 := h1.n
      have c8 := h1.w
      have f8 := fun m => (h1.drewN m).frozen 8
      have d8 := fun m => (h1.drewN m).w
      have HS := Lib.hid (cskew_any h1)
      have hn := g1.n7
      have hcut := fun X b => cut7 _ hn X b
      have hi7 : i < 7 := by have := h.good.n7; omega
      have F1 := Lib.hid (Foot.set (fun k => k = c) w ⟨c, 1 + i, none⟩ (.int .i64 (C.l.getD i 0 + 1)) rfl)
      have hfr := h.frozen (1 + i)
      have ci := h.at_ hi
      simp only [Clo.tick] at h2 HE HT
      generalize C.l.getD i 0 = y at *
      generalize hl' : C.l.set i (y + 1) = l' at *
      simp only at c0 c8 hn hcut HS
      generalize Clo.skew l' = k at *
      generalize l'.length = n at *
      generalize C.w = W at *
      clear h1 HT g1 h hl'
      go_enter Try.func11, Try.ntmps11
      go_wp2_with fail
      refine HA.out.mono ?_
      rintro e w1 ⟨rfl, rfl⟩
      go_wp2_with fail
      refine wp_region_tail_drawn 15 (by kernel_rfl) (by kernel_rfl) ?_
      simp only [List.take_succ_cons, List.take_zero, List.drop_succ_cons, List.drop_zero]
      repeat (go_big_quiet_step ((go_at_call 21; exact HS.out _)))
      refine wpQuiet_nil ?_
      intro _ hw'
      obtain ⟨mq, hw''⟩ := hw'
      subst hw''
      go_wp2
      go_ret
      exact ⟨by rw [HE.out]; rfl, by rw [HE.out]; exact h2.out mq, (F1.out.trans (Foot.drewN _ _ mq) fun _ _ h => h).trans (Foot.set (fun k => k = c) _ _ _ rfl) fun _ _ h => h⟩
  · rw [Clo.at_no hs] at HA
    have HE := Lib.hid (Clo.ticked_no hs)
    have HF := Lib.hid h
    clear h hs
    go_enter Try.func11, Try.ntmps11
    go_wp2_with fail
    refine HA.out.mono ?_
    rintro e w1 ⟨rfl, rfl⟩
    go_wp2
    go_ret
    exact ⟨by rw [HE.out]; rfl, by rw [HE.out]; exact HF.out, Foot.refl _ _⟩
theorem major_any (n : Int) (w : World) : Calls Try.prog 19 #[.int .i64 n] w fun e w' => e = .returned (.int .i64 (if 2 ≤ n ∧ n ≤ 7 then n / 2 + 1 else 0)) ∧ w = w' := by
  by_cases h1 : 2 ≤ n
  · by_cases h2 : n ≤ 7
    · rw [if_pos ⟨h1, h2⟩]
      have hd : n.tdiv 2 = n / 2 := Int.tdiv_eq_ediv_of_nonneg (by omega)
      go_enter Try.func19, Try.ntmps19
      go_wp2
      go_ret
      exact ⟨rfl, rfl⟩
    · rw [if_neg (by omega)]
      go_enter Try.func19, Try.ntmps19
      go_wp2
      go_ret
      exact ⟨rfl, rfl⟩
  · rw [if_neg (by omega)]
    go_enter Try.func19, Try.ntmps19
    go_wp2
    go_ret
    exact ⟨rfl, rfl⟩
theorem new_cells (n : Nat) (h : n ≤ 7) : clkCells (Clo.new n) = [.int .i64 (n : Int), .int .i64 0, .int .i64 0, .int .i64 0, .int .i64 0, .int .i64 0, .int .i64 0, .int .i64 0, .int .i64 0] := by
  have e : clkRow (List.replicate n 0) = List.replicate 7 0 := by
    unfold clkRow
    rw [List.length_replicate, List.replicate_append_replicate]
    congr 1; omega
  unfold clkCells Clo.new
  simp only [e, List.length_replicate]
  rfl
set_option maxRecDepth 100000 in
set_option maxHeartbeats 1000000 in
theorem new_any (n : Nat) (h1 : 2 ≤ n) (h2 : n ≤ 7) (w : World) : Calls Try.prog 8 #[.int .i64 (n : Int)] w fun e w' => e = .returned (.tuple #[.pointer (some ⟨w.heap.size, 0, none⟩), .int .i64 0]) ∧ IsC w' w.heap.size (Clo.new n) ∧ Below w.heap.size w w' := by
  have HM := Lib.hid (major_any (n : Int))
  rw [if_pos (by omega)] at HM
  have HC := Lib.hid (new_cells n h2)
  have HG := Lib.hid (Clo.new_good h1 h2)
  have hj : 2 ≤ (n : Int) / 2 + 1 := by omega
  generalize (n : Int) / 2 + 1 = j at *
  go_enter Try.func8, Try.ntmps8
  go_wp2_with fail
  refine (HM.out _).mono ?_
  rintro e w1 ⟨rfl, rfl⟩
  go_wp2
  go_ret2
  refine ⟨rfl, ⟨?_, HG.out⟩, (Below.refl _ w).alloc (Nat.le_refl _) _⟩
  rw [HC.out]
  exact World.alloc_heap_new w _
theorem new_no (n : Int) (h : ¬ (2 ≤ n ∧ n ≤ 7)) (w : World) : Calls Try.prog 8 #[.int .i64 n] w fun e w' => e = .returned (.tuple #[.pointer none, .int .i64 2]) ∧ w = w' := by
  have HM := Lib.hid (major_any n)
  rw [if_neg h] at HM
  clear h
  go_enter Try.func8, Try.ntmps8
  go_wp2_with fail
  refine (HM.out _).mono ?_
  rintro e w1 ⟨rfl, rfl⟩
  go_wp2
  go_ret2
  exact ⟨rfl, rfl⟩
end Go.Proofs.Ytljlighgjjiagaa
