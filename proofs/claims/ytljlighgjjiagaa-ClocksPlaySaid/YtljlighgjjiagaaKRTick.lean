/-
  The contracts of the document's Tick and New.
-/
import Derived.Test.YtljlighgjjiagaaKRef
namespace Go.Proofs.Ytljlighgjjiagaa
open Go.RowKit
theorem IsR.set {w : World} {r g : Nat} {C : Clo.Cs} (h : IsR w r g C) {i : Nat} (y : Int) (hg : Clo.Good ⟨C.l.set i y, C.w⟩) : IsR (w.setCell ⟨g, i, none⟩ (.int .i64 y)) r g ⟨C.l.set i y, C.w⟩ := by
  refine ⟨?_, (heap_setCell_same w g _ _ _ _ h.row).trans ?_, h.rg, hg⟩
  · rw [List.length_set]
    exact (Below.heap_setCell w _ _ r (fun e => h.rg e)).trans h.head
  · rw [List.map_set, List.setIfInBounds_toArray]
theorem IsR.setW {w : World} {r g : Nat} {C : Clo.Cs} (h : IsR w r g C) (y : Int) (hg : Clo.Good ⟨C.l, y⟩) : IsR (w.setCell ⟨r, 1, none⟩ (.int .i64 y)) r g ⟨C.l, y⟩ :=
  ⟨heap_setCell_same w r _ _ _ _ h.head, (Below.heap_setCell w _ _ g (fun e => h.rg e.symm)).trans h.row, h.rg, hg⟩
/-- What the document's Tick leaves. -/
def RTicks (w : World) (r g : Nat) (R : Clo.Cs × Int) (e : Ending) (w' : World) : Prop := e = .returned (.int .i64 R.2) ∧ IsR w' r g R.1 ∧ Foot (fun k => k = r ∨ k = g) w w'
set_option maxRecDepth 100000 in
set_option maxHeartbeats 1000000 in
theorem rtick_any {w : World} {r g : Nat} {C : Clo.Cs} (s : Int) (h : IsR w r g C) : Calls Try.prog 12 #[.pointer (some ⟨r, 0, none⟩), .int .i64 s] w (RTicks w r g (Clo.ticked C s)) := by
  have HA := Lib.hid (rat_any s h)
  rcases Clo.site_split s C.l.length with ⟨i, rfl, hi⟩ | hs
  · rw [Clo.at_ok hi] at HA
    have hgi := h.good.at_ hi
    by_cases hm : C.l.getD i 0 = 1073741824
    · have HE := Lib.hid (Clo.ticked_full hi hm)
      rw [hm] at HA
      have HF := Lib.hid h
      clear h hm hgi
      go_enter Try.func12, Try.ntmps12
      go_wp2_with fail
      refine HA.out.mono ?_
      rintro e w1 ⟨rfl, rfl⟩
      go_wp2
      go_ret
      exact ⟨by rw [HE.out]; rfl, by rw [HE.out]; exact HF.out, Foot.refl _ _⟩
    · have HE := Lib.hid (Clo.ticked_ok hi hm)
      have HT := Lib.hid (h.good.tick hi hm)
      have g1 : Clo.Good ⟨C.l.set i (C.l.getD i 0 + 1), C.w⟩ := ⟨by simpa using h.good.n2, by simpa using h.good.n7, fun x hx' => by
        rcases Clo.set_mem hx' with e | e
        · omega
        · exact h.good.r x e, h.good.w0, h.good.w1⟩
      have h1 := h.set (i := i) _ g1
      have h2 := Lib.hid (fun m => (h1.drewN m).setW _ HT.out)
      have c0 := h.l
      have fr := fun o => (h.frozen o).1
      have fg := fun o => (h.frozen o).2
      have ci := h.at_ hi
      have c8 := h1.w
      have f8 := fun m => ((h1.drewN m).frozen 1).1
      have d8 := fun m => (h1.drewN m).w
      have HS := Lib.hid (fun m => (rskew_any (h1.drewN m)).mono fun e w' (h : _ ∧ ∃ n, w' = ((w.setCell ⟨g, i, none⟩ (.int .i64 (C.l.getD i 0 + 1))).drewN m).drewN n) => (⟨h.1, by obtain ⟨n, rfl⟩ := h.2; exact ⟨m + n, by rw [World.drewN_drewN]⟩⟩ : e = .returned (.int .i64 (Clo.skew (C.l.set i (C.l.getD i 0 + 1)))) ∧ ∃ n, w' = (w.setCell ⟨g, i, none⟩ (.int .i64 (C.l.getD i 0 + 1))).drewN n))
      have F1 := Lib.hid (Foot.set (fun k => k = r ∨ k = g) w ⟨g, i, none⟩ (.int .i64 (C.l.getD i 0 + 1)) (.inr rfl))
      have hn := h.good.n7
      simp only [Clo.tick] at h2 HE HT
      generalize C.l.getD i 0 = y at *
      generalize hl' : C.l.set i (y + 1) = l' at *
      simp only at c8 HS
      generalize Clo.skew l' = k at *
      generalize C.l.length = n at *
      generalize C.w = W at *
      clear h1 HT g1 h hl'
      go_enter Try.func12, Try.ntmps12
      go_wp2_with fail
      refine HA.out.mono ?_
      rintro e w1 ⟨rfl, rfl⟩
      go_wp2_with fail
      refine wp_region_tail_drawn 8 (by kernel_rfl) (by kernel_rfl) ?_
      simp only [List.take_succ_cons, List.take_zero, List.drop_succ_cons, List.drop_zero]
      repeat (go_big_quiet_step ((go_at_call 14; exact HS.out _)))
      refine wpQuiet_nil ?_
      intro _ hw'
      obtain ⟨mq, hw''⟩ := hw'
      subst hw''
      go_wp2
      go_ret
      exact ⟨by rw [HE.out]; rfl, by rw [HE.out]; exact h2.out mq, (F1.out.trans (Foot.drewN _ _ mq) fun _ _ h => h).trans (Foot.set (fun k => k = r ∨ k = g) _ _ _ (.inl rfl)) fun _ _ h => h⟩
  · rw [Clo.at_no hs] at HA
    have HE := Lib.hid (Clo.ticked_no hs)
    have HF := Lib.hid h
    clear h hs
    go_enter Try.func12, Try.ntmps12
    go_wp2_with fail
    refine HA.out.mono ?_
    rintro e w1 ⟨rfl, rfl⟩
    go_wp2
    go_ret
    exact ⟨by rw [HE.out]; rfl, by rw [HE.out]; exact HF.out, Foot.refl _ _⟩
theorem Try.info_kint : (Try.prog.info? 3).map (fun i => (i.zero, i.size, i.bytes)) = some (some (.int .i64 0), 1, 8) := by kernel_rfl
theorem made_full (X : World) (n : Nat) (h1 : 2 ≤ n) (hn : n ≤ 7) : (Instr.makeSlice 22 (.int .i64 (n : Int)) (.int .i64 (n : Int))).run Try.prog X = .ok (.slice (some ⟨X.heap.size, 0, none⟩) n n) (X.alloc (.cells ((List.replicate n 0).map (Value.int .i64)).toArray 3)) := by
  obtain ⟨i0, hi0, hz0, hz1, hz2⟩ := info_parts Try.info_kint
  have h := run_makeSlice (P := Try.prog) X 22 3 i0 (.int .i64 0) Try.underlying22 hi0 hz0 .i64 .i64 (n : Int) (n : Int) (by omega) (by omega) (by rw [hz1]; omega) (by rw [hz2]; omega) (by omega)
  rw [hz1, Nat.mul_one] at h
  have e : madeCells (Value.int .i64 0).cells n = ((List.replicate n 0).map (Value.int .i64)).toArray := by
    apply Array.ext
    · simp [madeCells]
    · intro i _ _
      simp [madeCells, Value.cells, Nat.mod_one]
  rw [← e]
  exact h
theorem rsites_any (n : Int) (w : World) : Calls Try.prog 20 #[.int .i64 n] w fun e w' => e = .returned (.bool (decide (2 ≤ n) && decide (n ≤ 7))) ∧ w = w' := by
  by_cases h1 : 2 ≤ n
  · by_cases h2 : n ≤ 7
    · go_enter Try.func20, Try.ntmps20
      go_wp2
      go_ret
      exact ⟨by rw [decide_eq_true h1, decide_eq_true h2]; rfl, rfl⟩
    · go_enter Try.func20, Try.ntmps20
      go_wp2
      go_ret
      exact ⟨by rw [decide_eq_false (show ¬ n ≤ 7 by omega)]; rfl, rfl⟩
  · go_enter Try.func20, Try.ntmps20
    go_wp2
    go_ret
    exact ⟨by rw [decide_eq_false (show ¬ 2 ≤ n by omega)]; rfl, rfl⟩
set_option maxRecDepth 100000 in
set_option maxHeartbeats 1000000 in
theorem rnew_any (n : Nat) (h1 : 2 ≤ n) (h2 : n ≤ 7) (w : World) : Calls Try.prog 9 #[.int .i64 (n : Int)] w fun e w' => e = .returned (.tuple #[.pointer (some ⟨w.heap.size + 1, 0, none⟩), .int .i64 0]) ∧ IsR w' (w.heap.size + 1) w.heap.size (Clo.new n) ∧ Below w.heap.size w w' := by
  have HM := Lib.hid (rsites_any (n : Int))
  rw [show (decide (2 ≤ (n : Int)) && decide ((n : Int) ≤ 7)) = true by simp; omega] at HM
  have HG := Lib.hid (Clo.new_good h1 h2)
  have hmk := made_full w n h1 h2
  have HW := Lib.hid (World.alloc_heap_new w (.cells ((List.replicate n 0).map (Value.int .i64)).toArray 3))
  have HB := Lib.hid ((Below.refl _ w).alloc (Nat.le_refl _) (.cells ((List.replicate n 0).map (Value.int .i64)).toArray 3))
  have HS := Lib.hid (World.size_alloc w (.cells ((List.replicate n 0).map (Value.int .i64)).toArray 3))
  generalize w.alloc (.cells ((List.replicate n 0).map (Value.int .i64)).toArray 3) = w1 at *
  go_enter Try.func9, Try.ntmps9
  go_wp2_with fail
  refine (HM.out _).mono ?_
  rintro e w2 ⟨rfl, rfl⟩
  go_wp2
  go_ret2
  have hs := HS.out
  refine ⟨by rw [hs]; rfl, ⟨?_, ?_, by omega, HG.out⟩, HB.out.alloc (by omega) _⟩
  · rw [← hs]
    show _ = some (Obj.cells #[.slice (some ⟨w.heap.size, 0, none⟩) (List.replicate n 0).length (List.replicate n 0).length, .int .i64 0] _ _)
    rw [List.length_replicate]
    exact World.alloc_heap_new w1 _
  · exact (Below.heap_alloc _ _ _ (by omega)).trans HW.out
theorem rnew_no (n : Int) (h : ¬ (2 ≤ n ∧ n ≤ 7)) (w : World) : Calls Try.prog 9 #[.int .i64 n] w fun e w' => e = .returned (.tuple #[.pointer none, .int .i64 2]) ∧ w = w' := by
  have HM := Lib.hid (rsites_any n)
  rw [show (decide (2 ≤ n) && decide (n ≤ 7)) = false by simp; omega] at HM
  clear h
  go_enter Try.func9, Try.ntmps9
  go_wp2_with fail
  refine (HM.out _).mono ?_
  rintro e w1 ⟨rfl, rfl⟩
  go_wp2
  go_ret2
  exact ⟨rfl, rfl⟩
end Go.Proofs.Ytljlighgjjiagaa
