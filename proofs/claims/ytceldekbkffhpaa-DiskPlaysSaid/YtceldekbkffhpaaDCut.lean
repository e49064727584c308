/-
  The contract of cut: a file is taken out of the list.
-/
import Derived.Test.YtceldekbkffhpaaDInsert
import Derived.Test.YtceldekbkffhpaaDFind
namespace Go.Proofs.Ytceldekbkffhpaa
open Go.RowKit
theorem owns_set_beyond {w : World} {base : Nat} {e : TypeId} {size n cap g j : Nat} {xs : List Value} (h : w.ownsRow base e size (.slice (some ⟨g, 0, none⟩) n cap) n xs) (hj : n * size ≤ j) (u : Value) : (w.setCell ⟨g, j, none⟩ u).ownsRow base e size (.slice (some ⟨g, 0, none⟩) n cap) n xs := by
  refine ⟨h.1, ?_⟩
  rcases h.2 with ⟨hv, _⟩ | ⟨g', cap', cur, hv, hb, hg, hnc, hcm, hcs, ht⟩
  · cases hv
  · injection hv with h1 _ h3
    injection h1 with h1
    injection h1 with h1
    subst h1; subst h3
    refine .inr ⟨g, _, cur.setIfInBounds j u, rfl, hb, heap_setCell_same w g j cur e u hg, hnc, hcm, by simpa using hcs, ?_⟩
    rw [Array.toList_setIfInBounds, List.take_set_of_le hj]
    exact ht
theorem Head.set1 {w : World} {d cap : Nat} {v : Value} {down : Bool} {starts : Nat} {left : Int} {fv : Value} (h : Head w d cap v down starts left fv) (v' : Value) : Head (w.setCell ⟨d, 1, none⟩ v') d cap v' down starts left fv :=
  heap_setCell_same w d 1 _ _ v' h
theorem Head.set2 {w : World} {d cap : Nat} {v : Value} {down : Bool} {starts : Nat} {left : Int} {fv : Value} (h : Head w d cap v down starts left fv) (b : Bool) : Head (w.setCell ⟨d, 2, none⟩ (.bool b)) d cap v b starts left fv :=
  heap_setCell_same w d 2 _ _ _ h
theorem Head.set3 {w : World} {d cap : Nat} {v : Value} {down : Bool} {starts : Nat} {left : Int} {fv : Value} (h : Head w d cap v down starts left fv) (s : Nat) : Head (w.setCell ⟨d, 3, none⟩ (.int .i64 (s : Int))) d cap v down s left fv :=
  heap_setCell_same w d 3 _ _ _ h
theorem Head.set4 {w : World} {d cap : Nat} {v : Value} {down : Bool} {starts : Nat} {left : Int} {fv : Value} (h : Head w d cap v down starts left fv) (l : Int) : Head (w.setCell ⟨d, 4, none⟩ (.int .i64 l)) d cap v down starts l fv :=
  heap_setCell_same w d 4 _ _ _ h
theorem Head.set5 {w : World} {d cap : Nat} {v : Value} {down : Bool} {starts : Nat} {left : Int} {fv : Value} (h : Head w d cap v down starts left fv) (f : Value) : Head (w.setCell ⟨d, 5, none⟩ f) d cap v down starts left f :=
  heap_setCell_same w d 5 _ _ _ h
theorem rowCells_append (a b : List MF) : rowCells (a ++ b) = rowCells a ++ rowCells b := by simp [rowCells]
theorem rowCells_split (fs : List MF) (i : Nat) (hi : i ≤ fs.length) : (rowCells fs).take (i * 3) = rowCells (fs.take i) ∧ (rowCells fs).drop (i * 3) = rowCells (fs.drop i) := by
  have e : rowCells fs = rowCells (fs.take i) ++ rowCells (fs.drop i) := by rw [← rowCells_append, List.take_append_drop]
  have hl : (rowCells (fs.take i)).length = i * 3 := by rw [rowCells_len, List.length_take]; omega
  rw [e]
  exact ⟨List.take_left' hl, List.drop_left' hl⟩
theorem one_cells {fs : List MF} (h : ∀ f ∈ fs, f.bv.oneCell' = true) : ∀ u ∈ rowCells fs, u.oneCell' = true := by
  intro u hu
  unfold rowCells at hu
  obtain ⟨f, hf, hu⟩ := List.mem_flatMap.1 hu
  simp only [MF.cells, List.mem_cons, List.not_mem_nil, or_false] at hu
  rcases hu with rfl | rfl | rfl
  · rfl
  · exact h f hf
  · rfl
theorem Files.one {w : World} {d : Nat} {v : Value} {fs : List MF} (h : Files w d v fs) : ∀ f ∈ fs, f.bv.oneCell' = true := fun f hf => by
  obtain ⟨A, c, e, _⟩ := (h.bytes f hf).val
  rw [e]; rfl
def delM (fs : List MF) (nm : ByteArray) : List MF := if nm ∈ MF.names fs then fs.eraseIdx (Dsk.place (MF.names fs) nm) else fs
/-- Fewer files, in a row that holds these: all else as it was. -/
theorem Files.fewer {S : Nat → Prop} {w w' : World} {d : Nat} {v v' : Value} {fs fs' : List MF} (h : Files w d v fs) (hs : fs'.Sublist fs) (hr : w'.ownsRow 0 62 3 v' fs'.length (rowCells fs')) (hv : v'.ownBlock = v.ownBlock)
    (hf : Foot S w w') (hS : ∀ k, S k → k = d ∨ v.ownBlock = some k) : Files w' d v' fs' :=
  ⟨hr, fun f hm => owns_foot (h.bytes f (hs.subset hm)) hf fun k hk e => by
      obtain ⟨h1, h2⟩ := h.off f (hs.subset hm) k hk
      rcases hS k e with e | e
      · exact h1 e
      · exact h2 e,
    List.Pairwise.sublist hs h.apart, fun f hm => by rw [hv]; exact h.off f (hs.subset hm), by rw [hv]; exact h.offd, fun f hm => h.sure f (hs.subset hm)⟩
theorem del_row (cur xs : List Value) (n p : Nat) (hp : p < n) (hx : xs.length = n * 3) (ht : cur.take (n * 3) = xs) :
    (cur.take (p * 3) ++ xs.drop ((p + 1) * 3) ++ cur.drop (p * 3 + (xs.drop ((p + 1) * 3)).length)).take ((n - 1) * 3) = xs.take (p * 3) ++ xs.drop ((p + 1) * 3) := by
  have e : cur.take (p * 3) = xs.take (p * 3) := by rw [← ht, List.take_take, Nat.min_eq_left (by omega)]
  rw [e]
  refine List.take_left' ?_
  simp only [List.length_append, List.length_take, List.length_drop, hx]
  omega
theorem rowCells_erase (fs : List MF) {p : Nat} (hp : p < fs.length) : rowCells (fs.eraseIdx p) = (rowCells fs).take (p * 3) ++ (rowCells fs).drop ((p + 1) * 3) := by
  rw [(rowCells_split fs p (by omega)).1, (rowCells_split fs (p + 1) hp).2, ← rowCells_append, List.eraseIdx_eq_take_drop_succ]
theorem cut_end {d cap : Nat} {down : Bool} {starts : Nat} {left : Int} {fv : Value} {fs fs' : List MF} {g c c' n : Nat} {w W : World} (a b e : Value) (hgd : g ≠ d)
    (hf : Files w d (.slice (some ⟨g, 0, none⟩) fs.length c) fs) (hs : fs'.Sublist fs) (hn : fs'.length = n) (hW : Foot (fun k => k = d ∨ k = g) w W) (hh : Head W d cap (.slice (some ⟨g, 0, none⟩) fs.length c) down starts left fv)
    (ho : W.ownsRow 0 62 3 (.slice (some ⟨g, 0, none⟩) n c') n (rowCells fs')) :
    Head ((((W.setCell ⟨g, n * 3, none⟩ a).setCell ⟨g, n * 3 + 1, none⟩ b).setCell ⟨g, n * 3 + 2, none⟩ e).setCell ⟨d, 1, none⟩ (.slice (some ⟨g, 0, none⟩) n c')) d cap (.slice (some ⟨g, 0, none⟩) n c') down starts left fv ∧
    Files ((((W.setCell ⟨g, n * 3, none⟩ a).setCell ⟨g, n * 3 + 1, none⟩ b).setCell ⟨g, n * 3 + 2, none⟩ e).setCell ⟨d, 1, none⟩ (.slice (some ⟨g, 0, none⟩) n c')) d (.slice (some ⟨g, 0, none⟩) n c') fs' ∧
    Foot (fun k => k = d ∨ k = g) w ((((W.setCell ⟨g, n * 3, none⟩ a).setCell ⟨g, n * 3 + 1, none⟩ b).setCell ⟨g, n * 3 + 2, none⟩ e).setCell ⟨d, 1, none⟩ (.slice (some ⟨g, 0, none⟩) n c')) := by
  have o1 := owns_set_beyond ho (j := n * 3) (Nat.le_refl _) a
  have o2 := owns_set_beyond o1 (j := n * 3 + 1) (by omega) b
  have o3 := owns_set_beyond o2 (j := n * 3 + 2) (by omega) e
  have f1 := hW.trans (Foot.set (fun k => k = d ∨ k = g) W ⟨g, n * 3, none⟩ a (.inr rfl)) fun _ _ h => h
  have f2 := f1.trans (Foot.set (fun k => k = d ∨ k = g) _ ⟨g, n * 3 + 1, none⟩ b (.inr rfl)) fun _ _ h => h
  have f3 := f2.trans (Foot.set (fun k => k = d ∨ k = g) _ ⟨g, n * 3 + 2, none⟩ e (.inr rfl)) fun _ _ h => h
  have h3 : Head (((W.setCell ⟨g, n * 3, none⟩ a).setCell ⟨g, n * 3 + 1, none⟩ b).setCell ⟨g, n * 3 + 2, none⟩ e) d cap (.slice (some ⟨g, 0, none⟩) fs.length c) down starts left fv := by
    unfold Head
    rw [Below.heap_setCell _ _ _ _ (fun h => hgd h.symm), Below.heap_setCell _ _ _ _ (fun h => hgd h.symm), Below.heap_setCell _ _ _ _ (fun h => hgd h.symm)]
    exact hh
  have f4 := f3.trans (Foot.set (fun k => k = d ∨ k = g) _ ⟨d, 1, none⟩ (.slice (some ⟨g, 0, none⟩) n c') (.inl rfl)) fun _ _ h => h
  refine ⟨h3.set1 _, hf.fewer hs ?_ rfl f4 (fun k hk => hk.imp id fun h => by rw [h]; rfl), f4⟩
  rw [hn]
  exact ownsRow_setCell_other o3 (fun h => hgd (by injection h)) _
set_option maxRecDepth 100000 in
set_option maxHeartbeats 2000000 in
theorem cut_walk {d cap : Nat} {down : Bool} {starts : Nat} {left : Int} {fv : Value} {fs : List MF} {g c : Nat} (nm : ByteArray) (w : World) (hh : Head w d cap (.slice (some ⟨g, 0, none⟩) fs.length c) down starts left fv) (h : Files w d (.slice (some ⟨g, 0, none⟩) fs.length c) fs)
    (hr : Dsk.Rise (MF.names fs)) (hl : fs.length ≤ 1000) (hin : nm ∈ MF.names fs) :
    Calls Try.prog 59 #[.pointer (some ⟨d, 0, none⟩), .string nm] w fun e w' =>
      e = .returned (.tuple #[]) ∧ Head w' d cap (.slice (some ⟨g, 0, none⟩) (fs.length - 1) c) down starts left fv ∧ Files w' d (.slice (some ⟨g, 0, none⟩) (fs.length - 1) c) (delM fs nm) ∧ Foot (fun k => k = d ∨ k = g) w w' := by
  have HFD := Lib.hid (find_any nm w hh h hr hl)
  rw [decide_eq_true hin] at HFD
  obtain ⟨hp, _⟩ := Dsk.place_mem hr hin
  rw [MF.names_len] at hp
  have HDL : Hid (delM fs nm = fs.eraseIdx (Dsk.place (MF.names fs) nm)) := if_pos hin
  generalize Dsk.place (MF.names fs) nm = p at *
  have HF := Lib.hid h
  have HH := Lib.hid hh
  clear h hh hr hin
  go_enter Try.func59, Try.ntmps59
  go_wp2_with fail
  refine HFD.out.mono ?_
  rintro e w1 ⟨rfl, hb1⟩
  have hh1 := HH.out.foot (below_foot (S := fun _ => False) hb1) (fun e => e)
  have hf1 := HF.out.foot (below_foot (S := fun _ => False) hb1) (fun _ _ e => e)
  have hown := hf1.row
  have HONE := Lib.hid (one_cells hf1.one)
  have hgd : g ≠ d := fun e => hf1.offd (by rw [e]; rfl)
  have HF1 := Lib.hid hf1
  have HH1 := Lib.hid hh1
  rcases hown.2 with ⟨hv, _⟩ | ⟨g', c', cur, hv, _, hg, hnc, hcm, hcs, htk⟩
  · cases hv
  injection hv with hv1 _ hv2
  injection hv1 with hv1
  injection hv1 with hv1
  subst hv1; subst hv2
  obtain ⟨c0, c1, c2, c3, c4, c5, hfz⟩ := hh1.cells
  have z1 := hfz 1
  clear hf1 hh1 hfz c0 c2 c3 c4 c5
  unfold maxLen at hcm
  have hxl : (rowCells fs).length = fs.length * 3 := rowCells_len fs
  have hdl : ((rowCells fs).drop ((p + 1) * 3)).length = (fs.length - (p + 1)) * 3 := by rw [List.length_drop, hxl]; omega
  obtain ⟨sp, hsp⟩ : ∃ sp : Addr, sp = if c = p + 1 then (⟨g, 0, none⟩ : Addr) else ⟨g, (p + 1) * 3, none⟩ := ⟨_, rfl⟩
  have hcp : ∀ (D : World), D.heap = w1.heap → ∀ dc sc, (Builtin.copy_ #[49, 49] 3 #[.slice (some ⟨g, p * 3, none⟩) (fs.length - p) dc, .slice (some sp) (fs.length - (p + 1)) sc]).run Try.prog D =
      .ok (goInt ((fs.length - (p + 1) : Nat) : Int)) (D.setRow g (cur.toList.take (p * 3) ++ (rowCells fs).drop ((p + 1) * 3) ++ cur.toList.drop (p * 3 + ((rowCells fs).drop ((p + 1) * 3)).length)).toArray) := fun D hD dc sc =>
    run_copy_sized (P := Try.prog) D 49 49 3 62 3 g (p * 3) (fs.length - p) dc sp (fs.length - (p + 1)) sc cur 62 ((rowCells fs).drop ((p + 1) * 3)) (fs.length - (p + 1))
      Try.underlying49 Try.map_file (by rw [hD]; exact hg) (by simp only [Nat.min_def]; split <;> omega) hdl (fun j u hu => by
        rw [hsp]
        have hj := (List.getElem?_eq_some_iff.1 hu).1
        rw [hdl] at hj
        rw [if_neg (by omega), add_at]
        rw [List.getElem?_drop, ← htk, List.getElem?_take] at hu
        split at hu
        · have e : D.cell? ⟨g, (p + 1) * 3 + j, none⟩ = w1.cell? ⟨g, (p + 1) * 3 + j, none⟩ := World.cell?_of_block (by rw [hD])
          rw [e, cell_of_row w1 g _ _ _ _ hg]; simpa using hu
        · cases hu) (by rw [hdl, hcs]; omega) (fun u hu => HONE.out u (List.mem_of_mem_drop hu))
  obtain ⟨R1, hR1⟩ : ∃ R1, R1 = cur.toList.take (p * 3) ++ (rowCells fs).drop ((p + 1) * 3) ++ cur.toList.drop (p * 3 + ((rowCells fs).drop ((p + 1) * 3)).length) := ⟨_, rfl⟩
  have hdr := del_row cur.toList (rowCells fs) fs.length p hp hxl htk
  rw [← hR1] at hcp hdr
  have hR1l : R1.length = c * 3 := by
    rw [hR1]; simp only [List.length_append, List.length_take, List.length_drop, Array.length_toList, hcs, hxl]; omega
  rw [← rowCells_erase fs hp] at hdr
  have hlen : (fs.eraseIdx p).length = fs.length - 1 := List.length_eraseIdx_of_lt hp
  obtain ⟨W, hW⟩ : ∃ W, W = w1.drew.setRow g R1.toArray := ⟨_, rfl⟩
  have HC := Lib.hid (hcp w1.drew rfl)
  rw [← hW] at HC
  have hgW : W.heap[g]? = some (.cells R1.toArray 62 (0, 0)) := by rw [hW]; exact setRow_heap w1.drew g cur _ _ _ hg
  have hfW : Foot (fun k => k = d ∨ k = g) w1 W := by rw [hW]; exact (Foot.drew _ w1).trans (Foot.row (fun k => k = d ∨ k = g) _ g _ (.inr rfl)) fun _ _ h => h
  have hHW : Head W d cap (.slice (some ⟨g, 0, none⟩) fs.length c) down starts left fv := by
    rw [hW]; exact (show (w1.drew.setRow g R1.toArray).heap[d]? = _ from (setRow_other w1.drew g d R1.toArray (fun e => hgd e.symm)).trans HH1.out)
  have hoW : W.ownsRow 0 62 3 (.slice (some ⟨g, 0, none⟩) (fs.length - 1) c) (fs.length - 1) (rowCells (fs.eraseIdx p)) :=
    ⟨by rw [rowCells_len, hlen], .inr ⟨g, c, R1.toArray, rfl, Nat.zero_le _, hgW, by omega, by unfold maxLen; omega, by rw [List.size_toArray, hR1l], hdr⟩⟩
  obtain ⟨k0, k1, k2, k3, k4, k5, kz⟩ := hHW.cells
  have q1 := kz 1
  have r1 : ∀ j, W.frozen? ⟨g, j, none⟩ = false := fun j => frozen_of_row W g j _ _ hgW
  have r2 : ∀ j, j < c * 3 → (W.cell? ⟨g, j, none⟩).isSome = true := fun j hj => by
    rw [cell_of_row W g j _ _ _ hgW, Array.getElem?_eq_getElem (by rw [List.size_toArray, hR1l]; exact hj)]; rfl
  obtain ⟨y0, s0⟩ := Option.isSome_iff_exists.1 (r2 ((fs.length - 1) * 3) (by omega))
  obtain ⟨y1, s1⟩ := Option.isSome_iff_exists.1 (r2 ((fs.length - 1) * 3 + 1) (by omega))
  obtain ⟨y2, s2⟩ := Option.isSome_iff_exists.1 (r2 ((fs.length - 1) * 3 + 2) (by omega))
  have t0 := r1 ((fs.length - 1) * 3)
  have t1 := r1 ((fs.length - 1) * 3 + 1)
  have t2 := r1 ((fs.length - 1) * 3 + 2)
  have HOW := Lib.hid hoW
  have HFW := Lib.hid hfW
  have HHW := Lib.hid hHW
  clear hcp hR1 hdr hR1l hW hgW hfW hHW hoW k0 k2 k3 k4 k5 kz r1 r2 hlen hxl hdl htk hcs hg
  have g1 : (0 : Int) ≤ (p : Int) + 1 := by omega
  have g2 : IntKind.i64.wrap ((p : Int) + 1) = (p : Int) + 1 := IntWalk.i64_in _ (by omega)
  have g3 : (p : Int) + 1 ≤ (fs.length : Int) := by omega
  have g4 : (p : Int) ≤ (fs.length : Int) := by omega
  have g5 : ((p : Int) + 1).toNat = p + 1 := by omega
  have g6 : ¬ (c = p) := by omega
  by_cases hcp1 : c = p + 1
  · rw [if_pos hcp1] at hsp
    subst hsp
    subst hcp1
    go_wp2_with fail
    go_region_law (refine step_copy_known rfl _ _ 49 49 rfl (.slice (some ⟨g, p * 3, none⟩) (fs.length - p) 1) (.slice (some ⟨g, 0, none⟩) (fs.length - (p + 1)) 0) (by simp [Act.eval, Act.put]) (by simp [Act.eval, Act.put]; omega) (HC.out 1 0) ?_)
    all_goals
      clear g1 g2 g3 g4 g5 g6
      go_wp2
      go_end0
      rw [HDL.out]
      obtain ⟨e1, e2, e3⟩ := cut_end (.string ⟨#[]⟩) (.slice none 0 0) (.int .i64 0) hgd HF1.out (List.eraseIdx_sublist fs p) (List.length_eraseIdx_of_lt hp) HFW.out HHW.out HOW.out
      exact ⟨rfl, e1, e2, (below_foot hb1).trans e3 fun _ _ h => h⟩
  · rw [if_neg hcp1] at hsp
    subst hsp
    go_wp2_with fail
    go_region_law (refine step_copy_known rfl _ _ 49 49 rfl (.slice (some ⟨g, p * 3, none⟩) (fs.length - p) (c - p)) (.slice (some ⟨g, (p + 1) * 3, none⟩) (fs.length - (p + 1)) (c - (p + 1))) (by simp [Act.eval, Act.put]) (by simp [Act.eval, Act.put]) (HC.out _ _) ?_)
    all_goals
      clear g1 g2 g3 g4 g5 g6
      go_wp2
      go_end0
      rw [HDL.out]
      obtain ⟨e1, e2, e3⟩ := cut_end (.string ⟨#[]⟩) (.slice none 0 0) (.int .i64 0) hgd HF1.out (List.eraseIdx_sublist fs p) (List.length_eraseIdx_of_lt hp) HFW.out HHW.out HOW.out
      exact ⟨rfl, e1, e2, (below_foot hb1).trans e3 fun _ _ h => h⟩
def CutPost (w : World) (d cap : Nat) (v : Value) (down : Bool) (starts : Nat) (left : Int) (fv : Value) (fs' : List MF) (e : Ending) (w' : World) : Prop :=
  ∃ v', e = .returned (.tuple #[]) ∧ Head w' d cap v' down starts left fv ∧ Files w' d v' fs' ∧ Foot (fun k => k = d ∨ v.ownBlock = some k) w w' ∧ v'.ownBlock = v.ownBlock
set_option maxRecDepth 100000 in
theorem cut_any {d cap : Nat} {v : Value} {down : Bool} {starts : Nat} {left : Int} {fv : Value} {fs : List MF} (nm : ByteArray) (w : World) (hh : Head w d cap v down starts left fv) (h : Files w d v fs) (hr : Dsk.Rise (MF.names fs)) (hl : fs.length ≤ 1000) :
    Calls Try.prog 59 #[.pointer (some ⟨d, 0, none⟩), .string nm] w (CutPost w d cap v down starts left fv (delM fs nm)) := by
  by_cases hin : nm ∈ MF.names fs
  · obtain ⟨hp, _⟩ := Dsk.place_mem hr hin
    rw [MF.names_len] at hp
    obtain ⟨g, c, rfl, _⟩ := h.at_ hp
    refine (cut_walk nm w hh h hr hl hin).mono ?_
    rintro e w' ⟨h1, h2, h3, h4⟩
    exact ⟨_, h1, h2, h3, h4.mono fun k _ hk => hk.imp id fun h => by rw [h]; rfl, rfl⟩
  · have HFD := Lib.hid (find_any nm w hh h hr hl)
    rw [decide_eq_false hin] at HFD
    have HDL : Hid (delM fs nm = fs) := if_neg hin
    have HF := Lib.hid h
    have HH := Lib.hid hh
    clear h hh hr hin
    go_enter Try.func59, Try.ntmps59
    go_wp2_with fail
    refine HFD.out.mono ?_
    rintro e w1 ⟨rfl, hb1⟩
    go_wp2_with fail
    go_end0
    rw [HDL.out]
    exact ⟨v, rfl, HH.out.foot (below_foot (S := fun _ => False) hb1) (fun e => e), HF.out.foot (below_foot (S := fun _ => False) hb1) (fun _ _ e => e), below_foot hb1, rfl⟩
end Go.Proofs.Ytceldekbkffhpaa
