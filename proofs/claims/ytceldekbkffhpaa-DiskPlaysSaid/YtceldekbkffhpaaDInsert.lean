/-
  The contract of slices.Insert at files: one element comes to its place in the row.
-/
import Derived.Test.YtceldekbkffhpaaDRow
import Derived.Lib.Overlaps
namespace Go.Proofs.Ytceldekbkffhpaa
open Go.RowKit
def InsPost (v : Value) (n : Nat) (xs : List Value) (w : World) (e : Ending) (w' : World) : Prop := ∃ v', e = .returned v' ∧ Grew w w' 62 3 v v' n xs
theorem add_at (g o j : Nat) : (⟨g, o, none⟩ : Addr).add j = ⟨g, o + j, none⟩ := Addr.add_lit g o j
theorem new_cells {w : World} {nb : Nat} {x0 x1 x2 : Value} {t : TypeId} (h : w.heap[nb]? = some (.cells #[x0, x1, x2] t (0, 0))) : ∀ j u, [x0, x1, x2][j]? = some u → w.cell? ((⟨nb, 0, none⟩ : Addr).add j) = some u := by
  intro j u hu
  rw [add_at, Nat.zero_add, cell_of_row w nb j _ _ _ h]
  simpa using hu
set_option maxRecDepth 100000 in
set_option maxHeartbeats 1000000 in
theorem insert_end (v : Value) (n nb : Nat) (xs : List Value) (x0 x1 x2 : Value) (w : World) (hown : w.ownsRow 0 62 3 v n xs) (hn : n ≤ 1000)
    (hnb : w.heap[nb]? = some (.cells #[x0, x1, x2] 62 (0, 0))) (h1 : ∀ u ∈ [x0, x1, x2], u.oneCell' = true) :
    Calls Try.prog 50 #[v, .int .i64 (n : Int), .slice (some ⟨nb, 0, none⟩) 1 1] w (InsPost v (n + 1) (xs ++ [x0, x1, x2]) w) := by
  obtain ⟨i0, hi, hz0, hz1, hz2⟩ := info_parts Try.info_file
  obtain ⟨v', w', hr, hg⟩ := run_append_grew (P := Try.prog) w 49 49 62 i0 _ 3 48 Try.underlying49 hi hz0 hz1 hz2 rfl (by decide) v n xs hown ⟨nb, 0, none⟩ 1 1 [x0, x1, x2] rfl (new_cells hnb) h1 (by unfold maxLen; omega) (by omega)
  have HG := Lib.hid hg
  have HR := Lib.hid hr
  have h0 : ((1 : Int) == 0) = false := rfl
  obtain ⟨A, c, rfl, hc⟩ : ∃ A c, v = .slice A n c ∧ n ≤ c := by
    rcases hown.2 with ⟨rfl, rfl⟩ | ⟨g, cap, cur, rfl, hb, hgg, hnc, hcm, hcs, htk⟩
    · exact ⟨_, _, rfl, Nat.le_refl _⟩
    · exact ⟨_, _, rfl, hnc⟩
  have HO := Lib.hid hown
  clear hr hg hown h1 hnb hi hz0 hz1 hz2
  by_cases hcn : c = n
  · subst hcn
    go_enter Try.func50, Try.ntmps50
    go_wp2_with (at_builtin; refine Lib.wpList_append_run _ rfl _ _ _ _ rfl _ _ rfl rfl _ _ HR.out ?_)
    go_ret
    exact ⟨v', rfl, HG.out⟩
  · go_enter Try.func50, Try.ntmps50
    go_wp2_with (at_builtin; refine Lib.wpList_append_run _ rfl _ _ _ _ rfl _ _ rfl rfl _ _ HR.out ?_)
    go_ret
    exact ⟨v', rfl, HG.out⟩
theorem Try.size_file (w : World) : (Go.sizeOf 62).run Try.prog w = .ok 3 w := by kernel_rfl
theorem Try.map_file : (Try.prog.info? 62).map (·.size) = some 3 := by kernel_rfl
/-- A row behind two copies: the elements from i on move up by one, the new one comes in. -/
theorem shift_row (cur : List Value) (xs X : List Value) (n i : Nat) (hX : X.length = 3) (hi : i < n) (hx : xs.length = n * 3) (hc : (n + 1) * 3 ≤ cur.length) (ht : cur.take (n * 3) = xs) :
    ((((cur.take ((i + 1) * 3) ++ xs.drop (i * 3) ++ cur.drop ((i + 1) * 3 + (xs.drop (i * 3)).length)).take (i * 3)) ++ X ++
      (cur.take ((i + 1) * 3) ++ xs.drop (i * 3) ++ cur.drop ((i + 1) * 3 + (xs.drop (i * 3)).length)).drop (i * 3 + X.length))).take ((n + 1) * 3) = xs.take (i * 3) ++ X ++ xs.drop (i * 3) := by
  have e0 : (xs.drop (i * 3)).length = (n - i) * 3 := by rw [List.length_drop, hx]; omega
  have e1 : (cur.take ((i + 1) * 3)).length = (i + 1) * 3 := by rw [List.length_take]; omega
  have e2 : (cur.take ((i + 1) * 3) ++ xs.drop (i * 3) ++ cur.drop ((i + 1) * 3 + (xs.drop (i * 3)).length)).take (i * 3) = xs.take (i * 3) := by
    rw [List.append_assoc, List.take_append_of_le_length (by omega), List.take_take, Nat.min_eq_left (by omega), ← ht, List.take_take, Nat.min_eq_left (by omega)]
  have e3 : (cur.take ((i + 1) * 3) ++ xs.drop (i * 3) ++ cur.drop ((i + 1) * 3 + (xs.drop (i * 3)).length)).drop (i * 3 + X.length) = xs.drop (i * 3) ++ cur.drop ((i + 1) * 3 + (xs.drop (i * 3)).length) := by
    rw [List.append_assoc]
    exact List.drop_left' (by rw [e1, hX]; omega)
  rw [e2, e3, ← List.append_assoc]
  refine List.take_left' ?_
  simp only [List.length_append, List.length_take, hX, e0, hx]
  omega
set_option maxRecDepth 100000 in
set_option maxHeartbeats 2000000 in
theorem insert_shift (g n c i nb : Nat) (cur : Array Value) (xs : List Value) (x0 x1 x2 : Value) (w : World) (hi : i < n) (hroom : n + 1 ≤ c) (hcm : c ≤ maxLen) (hn : n ≤ 1000)
    (hg : w.heap[g]? = some (.cells cur 62 (0, 0))) (hcs : cur.size = c * 3) (htk : cur.toList.take (n * 3) = xs) (hxl : xs.length = n * 3) (hx1 : ∀ u ∈ xs, u.oneCell' = true)
    (hnb : w.heap[nb]? = some (.cells #[x0, x1, x2] 62 (0, 0))) (hne : nb ≠ g) (h1 : ∀ u ∈ [x0, x1, x2], u.oneCell' = true) :
    Calls Try.prog 50 #[.slice (some ⟨g, 0, none⟩) n c, .int .i64 (i : Int), .slice (some ⟨nb, 0, none⟩) 1 1] w (InsPost (.slice (some ⟨g, 0, none⟩) n c) (n + 1) (xs.take (i * 3) ++ [x0, x1, x2] ++ xs.drop (i * 3)) w) := by
  unfold maxLen at hcm
  have hdl : (xs.drop (i * 3)).length = (n - i) * 3 := by rw [List.length_drop, hxl]; omega
  have hov : ∀ lb cb, (callFunc 70 #[.slice (some ⟨nb, 0, none⟩) 1 1, .slice (some ⟨g, (i + 1) * 3, none⟩) lb cb]).run Try.prog w = .ok (.value (.bool false)) w := fun lb cb => by
    rw [run_callFunc_extern Try.func70 (by kernel_rfl) (by kernel_rfl) (by kernel_rfl) (e := Extern.SlicesOverlaps.overlaps #[49, 49] #[4]) (by kernel_rfl),
      Lib.run_overlaps_apart w 49 4 62 Try.underlying49 3 Try.size_file ⟨nb, 0, none⟩ ⟨g, (i + 1) * 3, none⟩ 1 1 lb cb hne 62 62 3 (c * 3)
        (by unfold World.shape?; rw [hnb]; rfl) (by unfold World.shape?; rw [hg]; simp [hcs]) (by omega) (frozen_of_row w nb 0 _ _ hnb) (frozen_of_row w nb _ _ _ hnb)]
    rfl
  have hat : ∀ j u, (xs.drop (i * 3))[j]? = some u → w.cell? ((⟨g, i * 3, none⟩ : Addr).add j) = some u := fun j u hu => by
    rw [List.getElem?_drop, ← htk, List.getElem?_take] at hu
    split at hu
    · rw [add_at, cell_of_row w g _ _ _ _ hg]; simpa using hu
    · cases hu
  obtain ⟨D, hD⟩ : ∃ D, D = w.drew := ⟨_, rfl⟩
  have hgD : D.heap[g]? = some (.cells cur 62 (0, 0)) := by rw [hD]; exact hg
  have hcp1 : ∀ dc sc, (Builtin.copy_ #[49, 49] 3 #[.slice (some ⟨g, (i + 1) * 3, none⟩) (n - i) dc, .slice (some ⟨g, i * 3, none⟩) (n + 1 - i) sc]).run Try.prog D =
      .ok (goInt ((n - i : Nat) : Int)) (D.setRow g (cur.toList.take ((i + 1) * 3) ++ xs.drop (i * 3) ++ cur.toList.drop ((i + 1) * 3 + (xs.drop (i * 3)).length)).toArray) := fun dc sc =>
    run_copy_sized (P := Try.prog) D 49 49 3 62 3 g ((i + 1) * 3) (n - i) dc ⟨g, i * 3, none⟩ (n + 1 - i) sc cur 62 (xs.drop (i * 3)) (n - i)
      Try.underlying49 Try.map_file hgD (by simp only [Nat.min_def]; split <;> omega) hdl (fun j u hu => by rw [hD]; exact hat j u hu) (by rw [hdl, hcs]; omega) (fun u hu => hx1 u (List.mem_of_mem_drop hu))
  obtain ⟨R1, hR1⟩ : ∃ R1, R1 = cur.toList.take ((i + 1) * 3) ++ xs.drop (i * 3) ++ cur.toList.drop ((i + 1) * 3 + (xs.drop (i * 3)).length) := ⟨_, rfl⟩
  have hsh := shift_row cur.toList xs [x0, x1, x2] n i rfl hi hxl (by rw [Array.length_toList, hcs]; omega) htk
  rw [← hR1] at hcp1 hsh
  have hR1l : R1.length = c * 3 := by
    rw [hR1]; simp only [List.length_append, List.length_take, List.length_drop, Array.length_toList, hcs, hxl]; omega
  obtain ⟨W1, hW1⟩ : ∃ W1, W1 = D.setRow g R1.toArray := ⟨_, rfl⟩
  have hg1 : W1.heap[g]? = some (.cells R1.toArray 62 (0, 0)) := by rw [hW1]; exact setRow_heap D g cur _ _ _ hgD
  have hf1 : Foot (fun k => some g = some k) w W1 := by rw [hW1, hD]; exact (Foot.drew _ w).trans (Foot.row (fun k => some g = some k) _ g _ rfl) fun _ _ h => h
  have hnb1 := hf1.kept hnb (fun e => hne (by injection e with e; exact e.symm))
  have hcp2 : ∀ dc, (Builtin.copy_ #[49, 49] 3 #[.slice (some ⟨g, i * 3, none⟩) (n + 1 - i) dc, .slice (some ⟨nb, 0, none⟩) 1 1]).run Try.prog W1 =
      .ok (goInt ((1 : Nat) : Int)) (W1.setRow g (R1.toArray.toList.take (i * 3) ++ [x0, x1, x2] ++ R1.toArray.toList.drop (i * 3 + [x0, x1, x2].length)).toArray) := fun dc =>
    run_copy_sized (P := Try.prog) W1 49 49 3 62 3 g (i * 3) (n + 1 - i) dc ⟨nb, 0, none⟩ 1 1 R1.toArray 62 [x0, x1, x2] 1
      Try.underlying49 Try.map_file hg1 (by simp only [Nat.min_def]; split <;> omega) rfl (new_cells hnb1) (by simp [hR1l]; omega) h1
  obtain ⟨R2, hR2⟩ : ∃ R2, R2 = R1.toArray.toList.take (i * 3) ++ [x0, x1, x2] ++ R1.toArray.toList.drop (i * 3 + [x0, x1, x2].length) := ⟨_, rfl⟩
  rw [← hR2] at hcp2
  obtain ⟨W2, hW2⟩ : ∃ W2, W2 = W1.setRow g R2.toArray := ⟨_, rfl⟩
  rw [← hW2] at hcp2
  rw [← hW1] at hcp1
  have HP : Hid (InsPost (.slice (some ⟨g, 0, none⟩) n c) (n + 1) (xs.take (i * 3) ++ [x0, x1, x2] ++ xs.drop (i * 3)) w (.returned (.slice (some ⟨g, 0, none⟩) (n + 1) c)) W2) := by
    refine ⟨_, rfl, ⟨?_, .inr ⟨g, c, R2.toArray, rfl, Nat.zero_le _, ?_, hroom, by unfold maxLen; omega, ?_, ?_⟩⟩, ?_, fun k hk => .inl hk⟩
    · simp only [List.length_append, List.length_take, List.length_drop, List.length_cons, List.length_nil, hxl]; omega
    · rw [hW2]; exact setRow_heap W1 g _ _ _ _ hg1
    · rw [hR2]; simp [hR1l]; omega
    · rw [hR2]; exact hsh
    · rw [hW2]; exact hf1.trans (Foot.row (fun k => some g = some k) _ g _ rfl) fun _ _ h => h
  have HC1 := Lib.hid hcp1
  have HC2 := Lib.hid hcp2
  generalize xs.take (i * 3) ++ [x0, x1, x2] ++ xs.drop (i * 3) = L at *
  have h0 : ((1 : Int) == 0) = false := rfl
  have hin : ((i : Int) == (n : Int)) = false := beq_eq_false_iff_ne.2 (by omega)
  have hb2 : ¬ (c = i + 1) := by omega
  have hb4 : ¬ (c = i) := by omega
  have hrm : decide ((c : Int) < (n : Int) + 1) = false := decide_eq_false (by omega)
  have HD := Lib.hid hD
  clear hcp1 hcp2 hD hgD hR1 hsh hR1l hW1 hg1 hf1 hnb1 hR2 hW2 hat hdl hx1 hxl htk hnb h1 hg hcs
  go_enter Try.func50, Try.ntmps50
  go_wp2_with (simp only [hov])
  have hD := HD.out
  subst hD
  have g3 : (i : Int) ≤ (n : Int) := by omega
  have g4 : (i : Int) ≤ (n : Int) + 1 := by omega
  have g1 : (0 : Int) ≤ (i : Int) + 1 := by omega
  have g2 : IntKind.i64.wrap ((i : Int) + 1) = (i : Int) + 1 := IntWalk.i64_in _ (by omega)
  have g5 : ((i : Int) + 1).toNat = i + 1 := by omega
  go_region_law (refine step_copy_known rfl _ _ 49 49 rfl (.slice (some ⟨g, (i + 1) * 3, none⟩) (n - i) (c - (i + 1))) (.slice (some ⟨g, i * 3, none⟩) (n + 1 - i) (c - i)) (by simp [Act.eval, Act.put]) (by simp [Act.eval, Act.put]) (HC1.out (c - (i + 1)) (c - i)) ?_)
  go_wp2_with (refine wpList_copy_known _ rfl _ _ 49 49 rfl (.slice (some ⟨g, i * 3, none⟩) (n + 1 - i) (c - i)) (.slice (some ⟨nb, 0, none⟩) 1 1) rfl rfl (HC2.out (c - i)) ?_)
  go_ret
  exact HP.out
/-- A new row behind two copies. -/
theorem grow_row (r xs X : List Value) (n i : Nat) (hX : X.length = 3) (hi : i < n) (hx : xs.length = n * 3) (hc : (n + 1) * 3 ≤ r.length) (ht : r.take (i * 3) = xs.take (i * 3)) :
    ((((r.take (i * 3) ++ X ++ r.drop (i * 3 + X.length)).take ((i + 1) * 3)) ++ xs.drop (i * 3) ++
      (r.take (i * 3) ++ X ++ r.drop (i * 3 + X.length)).drop ((i + 1) * 3 + (xs.drop (i * 3)).length))).take ((n + 1) * 3) = xs.take (i * 3) ++ X ++ xs.drop (i * 3) := by
  have e0 : (xs.drop (i * 3)).length = (n - i) * 3 := by rw [List.length_drop, hx]; omega
  have e1 : (r.take (i * 3) ++ X).length = (i + 1) * 3 := by rw [List.length_append, List.length_take, hX]; omega
  have e2 : (r.take (i * 3) ++ X ++ r.drop (i * 3 + X.length)).take ((i + 1) * 3) = xs.take (i * 3) ++ X := by
    rw [← ht]; exact List.take_left' e1
  rw [e2]
  refine List.take_left' ?_
  simp only [List.length_append, List.length_take, hX, e0, hx]
  omega
set_option maxRecDepth 100000 in
set_option maxHeartbeats 2000000 in
theorem insert_grow (g n c i nb : Nat) (cur : Array Value) (xs : List Value) (x0 x1 x2 : Value) (w : World) (hi : i < n) (hnc : n ≤ c) (hroom : c < n + 1) (hn : n ≤ 1000)
    (hg : w.heap[g]? = some (.cells cur 62 (0, 0))) (htk : cur.toList.take (n * 3) = xs) (hxl : xs.length = n * 3) (hx1 : ∀ u ∈ xs, u.oneCell' = true)
    (hnb : w.heap[nb]? = some (.cells #[x0, x1, x2] 62 (0, 0))) (h1 : ∀ u ∈ [x0, x1, x2], u.oneCell' = true) :
    Calls Try.prog 50 #[.slice (some ⟨g, 0, none⟩) n c, .int .i64 (i : Int), .slice (some ⟨nb, 0, none⟩) 1 1] w (InsPost (.slice (some ⟨g, 0, none⟩) n c) (n + 1) (xs.take (i * 3) ++ [x0, x1, x2] ++ xs.drop (i * 3)) w) := by
  obtain ⟨i0, hi0, hz0, hz1, hz2⟩ := info_parts Try.info_file
  have hlt := lt_of_block hg
  have hdl : (xs.drop (i * 3)).length = (n - i) * 3 := by rw [List.length_drop, hxl]; omega
  have hat : ∀ j u, xs[j]? = some u → w.cell? ⟨g, j, none⟩ = some u := fun j u hu => by
    rw [← htk, List.getElem?_take] at hu
    split at hu
    · rw [cell_of_row w g _ _ _ _ hg]; simpa using hu
    · cases hu
  have hold : (Builtin.firstCells i0.size i (.slice (some ⟨g, 0, none⟩) i c)).run Try.prog w.drew = .ok (xs.take (i * 3)).toArray w.drew := by
    rw [hz1]
    exact run_firstCells_some w.drew 3 i ⟨g, 0, none⟩ i c (xs.take (i * 3)) (by rw [List.length_take, hxl]; omega) (fun j u hu => by
      rw [List.getElem?_take] at hu
      split at hu
      · rw [add_at, Nat.zero_add]; exact hat j u hu
      · cases hu)
  have hik : i + (n + 1 - i) = n + 1 := by omega
  have hrz := Lib.run_append_grow_zeros w 49 3 49 62 i0 _ .i64 .i64 Try.underlying49 Try.underlying3 hi0 hz0 (some ⟨g, 0, none⟩) i c (xs.take (i * 3)) hold (n + 1 - i) (by omega) (by omega) (by omega) (by omega) (by rw [hz2]; omega)
    (by rw [hz2, hik]; exact growslice_fits hroom (by omega))
  rw [hik] at hrz
  rw [show ((n + 1 - i : Nat) : Int) = (n : Int) + 1 - (i : Int) by omega] at hrz
  have hG1 : n + 1 ≤ grownCap w (n + 1) c 62 := grownCap_ge w _ _ _
  have hG2 := grownCap_le_maxLen w (n + 1) c 62 (by unfold maxLen; omega)
  generalize grownCap w (n + 1) c 62 = G at *
  have hz3 : (Value.agg #[.string ⟨#[]⟩, .slice none 0 0, .int .i64 0]).cells.size = 3 := rfl
  obtain ⟨R0, hR0⟩ : ∃ R0, R0 = (xs.take (i * 3)).toArray ++ Builtin.zeroCells (Value.agg #[.string ⟨#[]⟩, .slice none 0 0, .int .i64 0]).cells (n + 1 - i) ++ Builtin.zeroCells (Value.agg #[.string ⟨#[]⟩, .slice none 0 0, .int .i64 0]).cells (G - (n + 1)) := ⟨_, rfl⟩
  rw [← hR0] at hrz
  have hR0l : R0.size = G * 3 := by
    rw [hR0]; simp only [Array.size_append, List.size_toArray, size_zeroCells, hz3, List.length_take, hxl]; omega
  have hR0t : R0.toList.take (i * 3) = xs.take (i * 3) := by
    rw [hR0, Array.toList_append, Array.toList_append, List.append_assoc]
    exact List.take_left' (by rw [List.length_take, hxl]; omega)
  obtain ⟨W0, hW0⟩ : ∃ W0, W0 = w.drew.alloc (.cells R0 62) := ⟨_, rfl⟩
  rw [← hW0] at hrz
  have hg0 : W0.heap[w.heap.size]? = some (.cells R0 62 (0, 0)) := by rw [hW0]; exact heap_alloc_new w.drew _
  have hb0 : Below w.heap.size w W0 := by rw [hW0]; exact ((Below.refl _ w).drew).alloc (Nat.le_refl _) _
  have hnb0 : W0.heap[nb]? = some (.cells #[x0, x1, x2] 62 (0, 0)) := (hb0.block nb (lt_of_block hnb)).trans hnb
  have hcp1 : ∀ dc, (Builtin.copy_ #[49, 49] 3 #[.slice (some ⟨w.heap.size, i * 3, none⟩) (n + 1 - i) dc, .slice (some ⟨nb, 0, none⟩) 1 1]).run Try.prog W0 =
      .ok (goInt ((1 : Nat) : Int)) (W0.setRow w.heap.size (R0.toList.take (i * 3) ++ [x0, x1, x2] ++ R0.toList.drop (i * 3 + [x0, x1, x2].length)).toArray) := fun dc =>
    run_copy_sized (P := Try.prog) W0 49 49 3 62 3 w.heap.size (i * 3) (n + 1 - i) dc ⟨nb, 0, none⟩ 1 1 R0 62 [x0, x1, x2] 1
      Try.underlying49 Try.map_file hg0 (by simp only [Nat.min_def]; split <;> omega) rfl (new_cells hnb0) (by simp [hR0l]; omega) h1
  have hsh := grow_row R0.toList xs [x0, x1, x2] n i rfl hi hxl (by rw [Array.length_toList, hR0l]; omega) hR0t
  obtain ⟨R1, hR1⟩ : ∃ R1, R1 = R0.toList.take (i * 3) ++ [x0, x1, x2] ++ R0.toList.drop (i * 3 + [x0, x1, x2].length) := ⟨_, rfl⟩
  rw [← hR1] at hcp1 hsh
  have hR1l : R1.length = G * 3 := by
    rw [hR1]; simp only [List.length_append, List.length_take, List.length_drop, Array.length_toList, hR0l, List.length_cons, List.length_nil]; omega
  obtain ⟨W1, hW1⟩ : ∃ W1, W1 = W0.setRow w.heap.size R1.toArray := ⟨_, rfl⟩
  rw [← hW1] at hcp1
  have hg1 : W1.heap[w.heap.size]? = some (.cells R1.toArray 62 (0, 0)) := by rw [hW1]; exact setRow_heap W0 w.heap.size _ _ _ _ hg0
  have hb1 : Below w.heap.size w W1 := by rw [hW1]; exact below_setRow hb0 (Nat.le_refl _) _
  have hcp2 : ∀ (D : World), D.heap = W1.heap → ∀ dc sc, (Builtin.copy_ #[49, 49] 3 #[.slice (some ⟨w.heap.size, (i + 1) * 3, none⟩) (n - i) dc, .slice (some ⟨g, i * 3, none⟩) (n - i) sc]).run Try.prog D =
      .ok (goInt ((n - i : Nat) : Int)) (D.setRow w.heap.size (R1.toArray.toList.take ((i + 1) * 3) ++ xs.drop (i * 3) ++ R1.toArray.toList.drop ((i + 1) * 3 + (xs.drop (i * 3)).length)).toArray) := fun D hD dc sc =>
    run_copy_sized (P := Try.prog) D 49 49 3 62 3 w.heap.size ((i + 1) * 3) (n - i) dc ⟨g, i * 3, none⟩ (n - i) sc R1.toArray 62 (xs.drop (i * 3)) (n - i)
      Try.underlying49 Try.map_file (by rw [hD]; exact hg1) (by simp only [Nat.min_def]; split <;> omega) hdl (fun j u hu => by
        rw [add_at]
        rw [List.getElem?_drop] at hu
        have e : D.cell? ⟨g, i * 3 + j, none⟩ = W1.cell? ⟨g, i * 3 + j, none⟩ := World.cell?_of_block (by rw [hD])
        rw [e, hb1.cell (p := ⟨g, i * 3 + j, none⟩) hlt]
        exact hat _ u hu) (by rw [hdl, List.size_toArray, hR1l]; omega) (fun u hu => hx1 u (List.mem_of_mem_drop hu))
  obtain ⟨R2, hR2⟩ : ∃ R2, R2 = R1.toArray.toList.take ((i + 1) * 3) ++ xs.drop (i * 3) ++ R1.toArray.toList.drop ((i + 1) * 3 + (xs.drop (i * 3)).length) := ⟨_, rfl⟩
  rw [← hR2] at hcp2
  have HP : Hid (∀ D : World, D.heap = W1.heap → Below w.heap.size w D → InsPost (.slice (some ⟨g, 0, none⟩) n c) (n + 1) (xs.take (i * 3) ++ [x0, x1, x2] ++ xs.drop (i * 3)) w (.returned (.slice (some ⟨w.heap.size, 0, none⟩) (n + 1) G)) (D.setRow w.heap.size R2.toArray)) := by
    intro D hD hbD
    refine ⟨_, rfl, ⟨?_, .inr ⟨w.heap.size, G, R2.toArray, rfl, Nat.zero_le _, ?_, hG1, hG2, ?_, ?_⟩⟩, below_foot (below_setRow hbD (Nat.le_refl _) _), fun k hk => .inr ?_⟩
    · simp only [List.length_append, List.length_take, List.length_drop, List.length_cons, List.length_nil, hxl]; omega
    · exact setRow_heap D w.heap.size _ _ _ _ (by rw [hD]; exact hg1)
    · rw [hR2]; simp [hR1l, hdl]; omega
    · rw [hR2]; exact hsh
    · injection hk with hk; simp at hk; omega
  have HC0 := Lib.hid hrz
  have HC1 := Lib.hid hcp1
  have HC2 := Lib.hid (hcp2 W1.drew rfl)
  generalize xs.take (i * 3) ++ [x0, x1, x2] ++ xs.drop (i * 3) = L at *
  unfold maxLen at hG2
  have h0 : ((1 : Int) == 0) = false := rfl
  have hin : ((i : Int) == (n : Int)) = false := beq_eq_false_iff_ne.2 (by omega)
  have hb2 : ¬ (G = i + 1) := by omega
  have hb4 : ¬ (G = i) := by omega
  have hb5 : ¬ (c = i) := by omega
  have hrm : decide ((c : Int) < (n : Int) + 1) = true := decide_eq_true (by omega)
  have HB := Lib.hid hb1
  clear hrz hcp1 hcp2 hg1 hR1 hsh hR1l hW1 hb1 hnb0 hR2 hR0 hR0l hR0t hW0 hg0 hb0 hat hdl hx1 hxl htk hnb h1 hg hold hi0 hz0 hz1 hz2 hz3 hik
  go_enter Try.func50, Try.ntmps50
  go_wp2_with (first
    | (at_builtin; refine Lib.wpList_append_run _ rfl _ _ _ _ rfl _ _ rfl rfl _ _ HC0.out ?_)
    | (refine wpList_copy_known _ rfl _ _ 49 49 rfl (.slice (some ⟨w.heap.size, i * 3, none⟩) (n + 1 - i) (G - i)) (.slice (some ⟨nb, 0, none⟩) 1 1) rfl rfl (HC1.out (G - i)) ?_))
  have g3 : (i : Int) ≤ (n : Int) := by omega
  have g4 : (i : Int) ≤ (n : Int) + 1 := by omega
  have g1 : (0 : Int) ≤ (i : Int) + 1 := by omega
  have g2 : IntKind.i64.wrap ((i : Int) + 1) = (i : Int) + 1 := IntWalk.i64_in _ (by omega)
  have g5 : ((i : Int) + 1).toNat = i + 1 := by omega
  go_region_law (refine step_copy_known rfl _ _ 49 49 rfl (.slice (some ⟨w.heap.size, (i + 1) * 3, none⟩) (n - i) (G - (i + 1))) (.slice (some ⟨g, i * 3, none⟩) (n - i) (c - i)) (by simp [Act.eval, Act.put]) (by simp [Act.eval, Act.put]) (HC2.out (G - (i + 1)) (c - i)) ?_)
  go_wp2
  go_ret
  exact HP.out _ rfl HB.out.drew
theorem insert_any (v : Value) (n i nb : Nat) (xs : List Value) (x0 x1 x2 : Value) (w : World) (hown : w.ownsRow 0 62 3 v n xs) (hx1 : ∀ u ∈ xs, u.oneCell' = true) (hi : i ≤ n) (hn : n ≤ 1000)
    (hnb : w.heap[nb]? = some (.cells #[x0, x1, x2] 62 (0, 0))) (hne : v.ownBlock ≠ some nb) (h1 : ∀ u ∈ [x0, x1, x2], u.oneCell' = true) :
    Calls Try.prog 50 #[v, .int .i64 (i : Int), .slice (some ⟨nb, 0, none⟩) 1 1] w (InsPost v (n + 1) (xs.take (i * 3) ++ [x0, x1, x2] ++ xs.drop (i * 3)) w) := by
  by_cases hin : i = n
  · subst hin
    have hxl : xs.length = i * 3 := hown.1
    have := insert_end v i nb xs x0 x1 x2 w hown hn hnb h1
    rw [List.take_of_length_le (by omega), List.drop_of_length_le (by omega), List.append_nil]
    exact this
  · rcases hown.2 with ⟨rfl, rfl⟩ | ⟨g, cap, cur, rfl, hb, hgg, hnc, hcm, hcs, htk⟩
    · omega
    · by_cases hroom : n + 1 ≤ cap
      · exact insert_shift g n cap i nb cur xs x0 x1 x2 w (by omega) hroom hcm hn hgg hcs htk hown.1 hx1 hnb (fun e => hne (by rw [e]; rfl)) h1
      · exact insert_grow g n cap i nb cur xs x0 x1 x2 w (by omega) hnc (by omega) hn hgg htk hown.1 hx1 hnb h1
end Go.Proofs.Ytceldekbkffhpaa
