/-
  The chapter's example.
-/
import Derived.Test.YtlejlmlgcehjiaaNOn
namespace Go.Proofs.Ytlejlmlgcehjiaa
open Go.RowKit
def hdk (k : Int) : Net.Hd := ⟨k, 0, 0, 0, 0, 0, 0, 0, 0, 0, 0, 0, 0, 0, 0, 0, 0⟩
def mlk (k : Int) : Net.Ml := ⟨hdk k, []⟩
def mmk (k : Int) : MM := ⟨hdk k, .slice none 0 0, []⟩
theorem Ents.none_ {w w' : World} {A : Option Addr} {c : Nat} (h : Ents w (.slice A 0 c) []) : Ents w' (.slice A 0 c) [] := by
  obtain ⟨A', c', h1, h2, h3, h4, _⟩ := h
  exact ⟨A', c', h1, h2, h3, h4, fun h => by simp at h⟩
theorem EOwn.ents0 {w w' : World} (h : EOwn w 0 (.slice none 0 0) []) : Ents w' (.slice none 0 0) [] := h.ents.none_
/-- Messages without entries, laid as a slice's literal. -/
theorem lit_read {W : World} {ms : List MM} {t : TypeId} (hm : ms.length ≤ 3) (h : ∀ m ∈ ms, m.v = .slice none 0 0 ∧ m.es = []) : MRead (W.alloc (.cells (mcs ms).toArray t)) (.slice (some ⟨W.heap.size, 0, none⟩) ms.length ms.length) ms := by
  refine ⟨_, _, rfl, Nat.le_refl _, by unfold maxLen; omega, fun _ => ⟨W.heap.size, 0, rfl, by simp, fun i hi j hj => ?_⟩, fun m hm' => ?_⟩
  · rw [cell_of_row _ _ _ _ _ _ (heap_alloc_new W _), Nat.zero_add]
    have := mcs_at ms hi hj
    simpa [MM.cells] using this
  · rw [(h m hm').1, (h m hm').2]
    exact (EOwn.nil W 0).ents0
section
variable {P : Program}
/-- A slice's literal whose run is known, as a step of a region that draws. -/
theorem step_build_known {ops : Array Oper} {o : Oper} {a : Act} {w : World} {K : Act → World → Prop} {Q : Exit → Act → World → Prop} {E : Prop}
    (hw : Region.wanted o (yielded ops a.tmps) = true) (t : TypeId) (n : Nat) (parts : Array (Nat × Operand)) (ps : Array (Nat × Value)) (hop : o.op = Op.buildSlice t n parts)
    (hp : parts.map (fun (i, x) => (i, a.eval x)) = ps) {v' : Value} {w' : World} (hr : (Instr.buildSlice t n ps).run P w = .ok v' w') (hK : K (a.put o.dst v') w') :
    if Region.wanted o (yielded ops a.tmps) = true then Oper.wp P o a w K Q else E := by
  rw [if_pos hw]
  unfold Oper.wp
  simp only [execOp, hop, Sem.run_bind, Sem.run_pure]
  rw [hp, hr]
  exact hK
end
theorem build3 (X : World) : (Instr.buildSlice 27 3 #[(0, .agg (mcells (hdk 1) (.slice none 0 0)).toArray), (1, .agg (mcells (hdk 2) (.slice none 0 0)).toArray), (2, .agg (mcells (hdk 1) (.slice none 0 0)).toArray)]).run Try.prog X = .ok (.slice (some ⟨X.heap.size, 0, none⟩) 3 3) (X.alloc (.cells (mcs [mmk 1, mmk 2, mmk 1]).toArray 36)) := by kernel_rfl
theorem build1 (X : World) : (Instr.buildSlice 27 1 #[(0, .agg (mcells (hdk 1) (.slice none 0 0)).toArray)]).run Try.prog X = .ok (.slice (some ⟨X.heap.size, 0, none⟩) 1 1) (X.alloc (.cells (mcs [mmk 1]).toArray 36)) := by kernel_rfl
/-- Two messages in boxes of their own. -/
theorem two_boxes (w : World) : ∃ W1 W2, Hid ((storeVar 36 ⟨w.heap.size, 0, none⟩ (.agg (mcells (hdk 1) (.slice none 0 0)).toArray)).run Try.prog ((w.alloc (.cells #[.int .i64 0, .int .i64 0, .int .i64 0, .int .i64 0, .int .i64 0, .int .i64 0, .int .i64 0, .int .i64 0, .int .i64 0, .slice none 0 0, .int .i64 0, .int .i64 0, .int .i64 0, .int .i64 0, .int .i64 0, .int .i64 0, .int .i64 0, .int .i64 0] 36)).alloc (.cells #[.int .i64 0, .int .i64 0, .int .i64 0, .int .i64 0, .int .i64 0, .int .i64 0, .int .i64 0, .int .i64 0, .int .i64 0, .slice none 0 0, .int .i64 0, .int .i64 0, .int .i64 0, .int .i64 0, .int .i64 0, .int .i64 0, .int .i64 0, .int .i64 0] 36)) = .ok () W1) ∧
    Hid ((storeVar 36 ⟨w.heap.size + 1, 0, none⟩ (.agg (mcells (hdk 2) (.slice none 0 0)).toArray)).run Try.prog W1 = .ok () W2) ∧ Hid (W2.heap[w.heap.size]? = some (.cells (mcells (hdk 1) (.slice none 0 0)).toArray 36 (0, 0))) ∧
    Hid (W2.heap[w.heap.size + 1]? = some (.cells (mcells (hdk 2) (.slice none 0 0)).toArray 36 (0, 0))) ∧ Hid (Below w.heap.size w W2) := by
  have n1 := heap_alloc2_old w (.cells #[.int .i64 0, .int .i64 0, .int .i64 0, .int .i64 0, .int .i64 0, .int .i64 0, .int .i64 0, .int .i64 0, .int .i64 0, .slice none 0 0, .int .i64 0, .int .i64 0, .int .i64 0, .int .i64 0, .int .i64 0, .int .i64 0, .int .i64 0, .int .i64 0] 36) (.cells #[.int .i64 0, .int .i64 0, .int .i64 0, .int .i64 0, .int .i64 0, .int .i64 0, .int .i64 0, .int .i64 0, .int .i64 0, .slice none 0 0, .int .i64 0, .int .i64 0, .int .i64 0, .int .i64 0, .int .i64 0, .int .i64 0, .int .i64 0, .int .i64 0] 36)
  have n2 := heap_alloc2_new w (.cells #[.int .i64 0, .int .i64 0, .int .i64 0, .int .i64 0, .int .i64 0, .int .i64 0, .int .i64 0, .int .i64 0, .int .i64 0, .slice none 0 0, .int .i64 0, .int .i64 0, .int .i64 0, .int .i64 0, .int .i64 0, .int .i64 0, .int .i64 0, .int .i64 0] 36) (.cells #[.int .i64 0, .int .i64 0, .int .i64 0, .int .i64 0, .int .i64 0, .int .i64 0, .int .i64 0, .int .i64 0, .int .i64 0, .slice none 0 0, .int .i64 0, .int .i64 0, .int .i64 0, .int .i64 0, .int .i64 0, .int .i64 0, .int .i64 0, .int .i64 0] 36)
  have s1 := run_storeVar_row (P := Try.prog) _ w.heap.size 36 36 _ (mcells (hdk 1) (.slice none 0 0)).toArray n1 (by kernel_rfl) rfl (by simp [mcells, Value.oneCell'])
  have f1 := Foot.row (fun k => k = w.heap.size) ((w.alloc (.cells #[.int .i64 0, .int .i64 0, .int .i64 0, .int .i64 0, .int .i64 0, .int .i64 0, .int .i64 0, .int .i64 0, .int .i64 0, .slice none 0 0, .int .i64 0, .int .i64 0, .int .i64 0, .int .i64 0, .int .i64 0, .int .i64 0, .int .i64 0, .int .i64 0] 36)).alloc (.cells #[.int .i64 0, .int .i64 0, .int .i64 0, .int .i64 0, .int .i64 0, .int .i64 0, .int .i64 0, .int .i64 0, .int .i64 0, .slice none 0 0, .int .i64 0, .int .i64 0, .int .i64 0, .int .i64 0, .int .i64 0, .int .i64 0, .int .i64 0, .int .i64 0] 36)) w.heap.size (mcells (hdk 1) (.slice none 0 0)).toArray rfl
  have m2 := f1.kept n2 (fun e => by omega)
  have s2 := run_storeVar_row (P := Try.prog) _ (w.heap.size + 1) 36 36 _ (mcells (hdk 2) (.slice none 0 0)).toArray m2 (by kernel_rfl) rfl (by simp [mcells, Value.oneCell'])
  have f2 := Foot.row (fun k => k = w.heap.size + 1) (((w.alloc (.cells #[.int .i64 0, .int .i64 0, .int .i64 0, .int .i64 0, .int .i64 0, .int .i64 0, .int .i64 0, .int .i64 0, .int .i64 0, .slice none 0 0, .int .i64 0, .int .i64 0, .int .i64 0, .int .i64 0, .int .i64 0, .int .i64 0, .int .i64 0, .int .i64 0] 36)).alloc (.cells #[.int .i64 0, .int .i64 0, .int .i64 0, .int .i64 0, .int .i64 0, .int .i64 0, .int .i64 0, .int .i64 0, .int .i64 0, .slice none 0 0, .int .i64 0, .int .i64 0, .int .i64 0, .int .i64 0, .int .i64 0, .int .i64 0, .int .i64 0, .int .i64 0] 36)).setRow w.heap.size (mcells (hdk 1) (.slice none 0 0)).toArray) (w.heap.size + 1) (mcells (hdk 2) (.slice none 0 0)).toArray rfl
  refine ⟨_, _, s1, s2, f2.kept (setRow_heap _ _ _ _ _ _ n1) (fun e => by omega), setRow_heap _ _ _ _ _ _ m2, ?_⟩
  have hb := ((Below.refl w.heap.size w).alloc (Nat.le_refl _) (.cells #[.int .i64 0, .int .i64 0, .int .i64 0, .int .i64 0, .int .i64 0, .int .i64 0, .int .i64 0, .int .i64 0, .int .i64 0, .slice none 0 0, .int .i64 0, .int .i64 0, .int .i64 0, .int .i64 0, .int .i64 0, .int .i64 0, .int .i64 0, .int .i64 0] 36)).alloc (by simp) (.cells #[.int .i64 0, .int .i64 0, .int .i64 0, .int .i64 0, .int .i64 0, .int .i64 0, .int .i64 0, .int .i64 0, .int .i64 0, .slice none 0 0, .int .i64 0, .int .i64 0, .int .i64 0, .int .i64 0, .int .i64 0, .int .i64 0, .int .i64 0, .int .i64 0] 36)
  exact (hb.trans (f1.below fun k hk => ⟨by simp; omega, by omega⟩)).trans (f2.below fun k hk => ⟨by simp [World.setRow]; omega, by omega⟩)
theorem below_alloc1 (w : World) (o : Obj) : Below w.heap.size w (w.alloc o) := (Below.refl _ _).alloc (Nat.le_refl _) o
theorem lit_one : ∀ m ∈ [mmk 1], m.v = .slice none 0 0 ∧ m.es = [] := by
  intro m hm
  simp only [List.mem_cons, List.not_mem_nil, or_false] at hm
  rcases hm with rfl
  exact ⟨rfl, rfl⟩
theorem lit_three : ∀ m ∈ [mmk 1, mmk 2, mmk 1], m.v = .slice none 0 0 ∧ m.es = [] := by
  intro m hm
  simp only [List.mem_cons, List.not_mem_nil, or_false] at hm
  rcases hm with rfl | rfl | rfl <;> exact ⟨rfl, rfl⟩
set_option maxRecDepth 100000 in
set_option maxHeartbeats 1000000 in
theorem works_any (w : World) : Calls Try.prog 19 #[] w fun e w' => e = .returned (.bool true) ∧ Below w.heap.size w w' := by
  obtain ⟨X1, W, s1, s2, n1, n2, HB0⟩ := two_boxes w
  have hlt1 := lt_of_block n1.out
  have hlt2 := lt_of_block n2.out
  go_enter Try.func19, Try.ntmps19
  go_wp2_with (first | (refine wpList_store_run rfl 36 _ _ rfl ⟨w.heap.size, 0, none⟩ (.agg (mcells (hdk 1) (.slice none 0 0)).toArray) rfl rfl s1.out ?_) | (refine wpList_store_run rfl 36 _ _ rfl ⟨w.heap.size + 1, 0, none⟩ (.agg (mcells (hdk 2) (.slice none 0 0)).toArray) rfl rfl s2.out ?_))
  refine (on_new W).mono ?_
  rintro e W' ⟨n, S, rfl, H, HBN, HSN⟩
  have hsz := HBN.out.size
  have OFF := Lib.hid (fun (wB : World) (SB : Nat → Prop) (M : List Net.Ml) (X : World) (h : Hid (On W wB SB n M X)) => (And.intro ((h.out.old hlt1).trans n1.out) ((h.out.old hlt2).trans n2.out) : X.heap[w.heap.size]? = some (.cells (mcells (hdk 1) (.slice none 0 0)).toArray 36 (0, 0)) ∧ X.heap[w.heap.size + 1]? = some (.cells (mcells (hdk 2) (.slice none 0 0)).toArray 36 (0, 0))))
  clear s1 s2 n1 n2 hlt1 hlt2
  have H0 : Hid (On W W' S n [] W'.drew) := H.out.drewN 1
  go_upto_region 3 with fail
  go_cut [44] (fun u wx => u = .bool false ∧ Hid (On W W' S n [mlk 1, mlk 2, mlk 1] wx))
  case first =>
    as_aux_lemma =>
      refine wp_region_held_drew (S := fun X => X.heap[w.heap.size]? = some (.cells (mcells (hdk 1) (.slice none 0 0)).toArray 36 (0, 0)) ∧ X.heap[w.heap.size + 1]? = some (.cells (mcells (hdk 2) (.slice none 0 0)).toArray 36 (0, 0))) (by kernel_rfl) (OFF.out _ _ _ _ H0) (fun hS0 => ?_)
      refine wpAnyH_take (i := 0) (v := ?_) rfl (by kernel_rfl) (by kernel_rfl) (by kernel_rfl) (fun _ _ _ h => h) (Or.inl ⟨by rfl, ?_⟩) (by assumption) ?_
      rotate_left
      · intro X hX
        go_simp
        try with_reducible rfl
      try simp only [Act.put, List.setIfInBounds_toArray, List.set_cons_zero, List.set_cons_succ, List.getElem_toArray, List.getElem_cons_zero]
      refine wpAnyH_take (i := 1) (v := ?_) rfl (by kernel_rfl) (by kernel_rfl) (by kernel_rfl) (fun _ _ _ h => h) (Or.inl ⟨by rfl, ?_⟩) (by assumption) ?_
      rotate_left
      · intro X hX
        go_simp
        try with_reducible rfl
      try simp only [Act.put, List.setIfInBounds_toArray, List.set_cons_zero, List.set_cons_succ, List.getElem_toArray, List.getElem_cons_succ, List.getElem_cons_zero]
      refine wpAnyH_take (i := 2) (v := ?_) rfl (by kernel_rfl) (by kernel_rfl) (by kernel_rfl) (fun _ _ _ h => h) (Or.inl ⟨by rfl, ?_⟩) (by assumption) ?_
      rotate_left
      · intro X hX
        go_simp
        try with_reducible rfl
      try simp only [Act.put, List.setIfInBounds_toArray, List.set_cons_zero, List.set_cons_succ, List.getElem_toArray, List.getElem_cons_succ, List.getElem_cons_zero]
      refine wpAnyH_take (i := 3) (v := ?_) rfl (by kernel_rfl) (by kernel_rfl) (by kernel_rfl) (fun _ _ _ h => h) (Or.inl ⟨by rfl, ?_⟩) (by assumption) ?_
      rotate_left
      · intro X hX
        go_simp
        try with_reducible rfl
      try simp only [Act.put, List.setIfInBounds_toArray, List.set_cons_zero, List.set_cons_succ, List.getElem_toArray, List.getElem_cons_succ, List.getElem_cons_zero]
      refine wpAnyH_take (i := 4) (v := .agg (mcells (hdk 1) (.slice none 0 0)).toArray) rfl (by kernel_rfl) (by kernel_rfl) (by kernel_rfl) (fun _ _ _ h => h) (Or.inl ⟨by rfl, ?_⟩) (by assumption) ?_
      · intro X hX
        exact run_exec_load 36 (.tmp 1) rfl ⟨w.heap.size, 0, none⟩ rfl (run_loadVar_row X (w.heap.size) _ _ (mcells (hdk 1) (.slice none 0 0)).toArray _ _ hX.1 Try.underlying36 rfl (by kernel_rfl))
      try simp only [Act.put, List.setIfInBounds_toArray, List.set_cons_zero, List.set_cons_succ, List.getElem_toArray, List.getElem_cons_succ, List.getElem_cons_zero]
      refine wpAnyH_ready (rs := [5]) (by kernel_rfl) (by simp) (AllReadyH.cons rfl (fun K hK => ?_) AllReadyH.nil)
      go_simp
      refine (on_send (hdk 1) H0 (EOwn.nil w 0).ents0 (Nat.zero_le _) (M' := [mlk 1]) (r := true) (by kernel_rfl)).mono ?_
      rintro e x1 ⟨rfl, H1⟩
      go_wp2_with fail
      refine hK.out _ _ ?_ (fun hHeld => ?_)
      · with_reducible exact (OFF.out _ _ _ _ H1)
      clear hK K
      try simp only [Act.put, List.setIfInBounds_toArray, List.set_cons_zero, List.set_cons_succ, List.getElem_toArray, List.getElem_cons_succ, List.getElem_cons_zero]
      refine wpAnyH_take (i := 6) (v := ?_) rfl (by kernel_rfl) (by kernel_rfl) (by kernel_rfl) (fun _ _ _ h => h) (Or.inl ⟨by rfl, ?_⟩) (by assumption) ?_
      rotate_left
      · intro X hX
        go_simp
        try with_reducible rfl
      try simp only [Act.put, List.setIfInBounds_toArray, List.set_cons_zero, List.set_cons_succ, List.getElem_toArray, List.getElem_cons_succ, List.getElem_cons_zero]
      refine wpAnyH_take (i := 7) (v := ?_) rfl (by kernel_rfl) (by kernel_rfl) (by kernel_rfl) (fun _ _ _ h => h) (Or.inl ⟨by rfl, ?_⟩) (by assumption) ?_
      rotate_left
      · intro X hX
        go_simp
        try with_reducible rfl
      try simp only [Act.put, List.setIfInBounds_toArray, List.set_cons_zero, List.set_cons_succ, List.getElem_toArray, List.getElem_cons_succ, List.getElem_cons_zero]
      refine wpAnyH_take (i := 8) (v := ?_) rfl (by kernel_rfl) (by kernel_rfl) (by kernel_rfl) (fun _ _ _ h => h) (Or.inl ⟨by rfl, ?_⟩) (by assumption) ?_
      rotate_left
      · intro X hX
        go_simp
        try with_reducible rfl
      try simp only [Act.put, List.setIfInBounds_toArray, List.set_cons_zero, List.set_cons_succ, List.getElem_toArray, List.getElem_cons_succ, List.getElem_cons_zero]
      refine wpAnyH_take (i := 9) (v := ?_) rfl (by kernel_rfl) (by kernel_rfl) (by kernel_rfl) (fun _ _ _ h => h) (Or.inl ⟨by rfl, ?_⟩) (by assumption) ?_
      rotate_left
      · intro X hX
        go_simp
        try with_reducible rfl
      try simp only [Act.put, List.setIfInBounds_toArray, List.set_cons_zero, List.set_cons_succ, List.getElem_toArray, List.getElem_cons_succ, List.getElem_cons_zero]
      refine wpAnyH_take (i := 10) (v := .agg (mcells (hdk 2) (.slice none 0 0)).toArray) rfl (by kernel_rfl) (by kernel_rfl) (by kernel_rfl) (fun _ _ _ h => h) (Or.inl ⟨by rfl, ?_⟩) (by assumption) ?_
      · intro X hX
        exact run_exec_load 36 (.tmp 2) rfl ⟨w.heap.size + 1, 0, none⟩ rfl (run_loadVar_row X (w.heap.size + 1) _ _ (mcells (hdk 2) (.slice none 0 0)).toArray _ _ hX.2 Try.underlying36 rfl (by kernel_rfl))
      try simp only [Act.put, List.setIfInBounds_toArray, List.set_cons_zero, List.set_cons_succ, List.getElem_toArray, List.getElem_cons_succ, List.getElem_cons_zero]
      refine wpAnyH_ready (rs := [11]) (by kernel_rfl) (by simp) (AllReadyH.cons rfl (fun K hK => ?_) AllReadyH.nil)
      go_simp
      refine (on_send (hdk 2) H1 (EOwn.nil w 0).ents0 (Nat.zero_le _) (M' := [mlk 1, mlk 2]) (r := true) (by kernel_rfl)).mono ?_
      rintro e x2 ⟨rfl, H2⟩
      go_wp2_with fail
      refine hK.out _ _ ?_ (fun hHeld => ?_)
      · with_reducible exact (OFF.out _ _ _ _ H2)
      clear hK K
      try simp only [Act.put, List.setIfInBounds_toArray, List.set_cons_zero, List.set_cons_succ, List.getElem_toArray, List.getElem_cons_succ, List.getElem_cons_zero]
      refine wpAnyH_take (i := 12) (v := ?_) rfl (by kernel_rfl) (by kernel_rfl) (by kernel_rfl) (fun _ _ _ h => h) (Or.inl ⟨by rfl, ?_⟩) (by assumption) ?_
      rotate_left
      · intro X hX
        go_simp
        try with_reducible rfl
      try simp only [Act.put, List.setIfInBounds_toArray, List.set_cons_zero, List.set_cons_succ, List.getElem_toArray, List.getElem_cons_succ, List.getElem_cons_zero]
      refine wpAnyH_take (i := 13) (v := ?_) rfl (by kernel_rfl) (by kernel_rfl) (by kernel_rfl) (fun _ _ _ h => h) (Or.inl ⟨by rfl, ?_⟩) (by assumption) ?_
      rotate_left
      · intro X hX
        go_simp
        try with_reducible rfl
      try simp only [Act.put, List.setIfInBounds_toArray, List.set_cons_zero, List.set_cons_succ, List.getElem_toArray, List.getElem_cons_succ, List.getElem_cons_zero]
      refine wpAnyH_take (i := 14) (v := ?_) rfl (by kernel_rfl) (by kernel_rfl) (by kernel_rfl) (fun _ _ _ h => h) (Or.inl ⟨by rfl, ?_⟩) (by assumption) ?_
      rotate_left
      · intro X hX
        go_simp
        try with_reducible rfl
      try simp only [Act.put, List.setIfInBounds_toArray, List.set_cons_zero, List.set_cons_succ, List.getElem_toArray, List.getElem_cons_succ, List.getElem_cons_zero]
      refine wpAnyH_take (i := 15) (v := ?_) rfl (by kernel_rfl) (by kernel_rfl) (by kernel_rfl) (fun _ _ _ h => h) (Or.inl ⟨by rfl, ?_⟩) (by assumption) ?_
      rotate_left
      · intro X hX
        go_simp
        try with_reducible rfl
      try simp only [Act.put, List.setIfInBounds_toArray, List.set_cons_zero, List.set_cons_succ, List.getElem_toArray, List.getElem_cons_succ, List.getElem_cons_zero]
      refine wpAnyH_ready (rs := [16]) (by kernel_rfl) (by simp) (AllReadyH.cons rfl (fun K hK => ?_) AllReadyH.nil)
      go_simp
      refine (on_copy 0 H2 (M' := [mlk 1, mlk 2, mlk 1]) (r := true) (by kernel_rfl)).mono ?_
      rintro e x3 ⟨rfl, H3⟩
      go_wp2_with fail
      refine hK.out _ _ ?_ (fun hHeld => ?_)
      · with_reducible exact (OFF.out _ _ _ _ H3)
      clear hK K
      try simp only [Act.put, List.setIfInBounds_toArray, List.set_cons_zero, List.set_cons_succ, List.getElem_toArray, List.getElem_cons_succ, List.getElem_cons_zero]
      refine wpAnyH_take (i := 17) (v := ?_) rfl (by kernel_rfl) (by kernel_rfl) (by kernel_rfl) (fun _ _ _ h => h) (Or.inl ⟨by rfl, ?_⟩) (by assumption) ?_
      rotate_left
      · intro X hX
        go_simp
        try with_reducible rfl
      try simp only [Act.put, List.setIfInBounds_toArray, List.set_cons_zero, List.set_cons_succ, List.getElem_toArray, List.getElem_cons_succ, List.getElem_cons_zero]
      refine wpAnyH_take (i := 18) (v := ?_) rfl (by kernel_rfl) (by kernel_rfl) (by kernel_rfl) (fun _ _ _ h => h) (Or.inl ⟨by rfl, ?_⟩) (by assumption) ?_
      rotate_left
      · intro X hX
        go_simp
        try with_reducible rfl
      try simp only [Act.put, List.setIfInBounds_toArray, List.set_cons_zero, List.set_cons_succ, List.getElem_toArray, List.getElem_cons_succ, List.getElem_cons_zero]
      refine wpAnyH_take (i := 19) (v := ?_) rfl (by kernel_rfl) (by kernel_rfl) (by kernel_rfl) (fun _ _ _ h => h) (Or.inl ⟨by rfl, ?_⟩) (by assumption) ?_
      rotate_left
      · intro X hX
        go_simp
        try with_reducible rfl
      try simp only [Act.put, List.setIfInBounds_toArray, List.set_cons_zero, List.set_cons_succ, List.getElem_toArray, List.getElem_cons_succ, List.getElem_cons_zero]
      refine wpAnyH_take (i := 20) (v := ?_) rfl (by kernel_rfl) (by kernel_rfl) (by kernel_rfl) (fun _ _ _ h => h) (Or.inl ⟨by rfl, ?_⟩) (by assumption) ?_
      rotate_left
      · intro X hX
        go_simp
        try with_reducible rfl
      try simp only [Act.put, List.setIfInBounds_toArray, List.set_cons_zero, List.set_cons_succ, List.getElem_toArray, List.getElem_cons_succ, List.getElem_cons_zero]
      refine wpAnyH_ready (rs := [21]) (by kernel_rfl) (by simp) (AllReadyH.cons rfl (fun K hK => ?_) AllReadyH.nil)
      go_simp
      refine (on_len H3).mono ?_
      rintro e x4 ⟨rfl, rfl⟩
      go_wp2_with fail
      refine hK.out _ _ ?_ (fun hHeld => ?_)
      · with_reducible exact (OFF.out _ _ _ _ H3)
      clear hK K
      try simp only [Act.put, List.setIfInBounds_toArray, List.set_cons_zero, List.set_cons_succ, List.getElem_toArray, List.getElem_cons_succ, List.getElem_cons_zero]
      refine wpAnyH_take (i := 22) (v := ?_) rfl (by kernel_rfl) (by kernel_rfl) (by kernel_rfl) (fun _ _ _ h => h) (Or.inl ⟨by rfl, ?_⟩) (by assumption) ?_
      rotate_left
      · intro X hX
        go_simp
        try with_reducible rfl
      try simp only [Act.put, List.setIfInBounds_toArray, List.set_cons_zero, List.set_cons_succ, List.getElem_toArray, List.getElem_cons_succ, List.getElem_cons_zero]
      refine wpAnyH_take (i := 23) (v := ?_) rfl (by kernel_rfl) (by kernel_rfl) (by kernel_rfl) (fun _ _ _ h => h) (Or.inl ⟨by rfl, ?_⟩) (by assumption) ?_
      rotate_left
      · intro X hX
        go_simp
        try with_reducible rfl
      try simp only [Act.put, List.setIfInBounds_toArray, List.set_cons_zero, List.set_cons_succ, List.getElem_toArray, List.getElem_cons_succ, List.getElem_cons_zero]
      refine wpAnyH_take (i := 24) (v := ?_) rfl (by kernel_rfl) (by kernel_rfl) (by kernel_rfl) (fun _ _ _ h => h) (Or.inl ⟨by rfl, ?_⟩) (by assumption) ?_
      rotate_left
      · intro X hX
        go_simp
        try with_reducible rfl
      try simp only [Act.put, List.setIfInBounds_toArray, List.set_cons_zero, List.set_cons_succ, List.getElem_toArray, List.getElem_cons_succ, List.getElem_cons_zero]
      refine wpAnyH_take (i := 25) (v := ?_) rfl (by kernel_rfl) (by kernel_rfl) (by kernel_rfl) (fun _ _ _ h => h) (Or.inl ⟨by rfl, ?_⟩) (by assumption) ?_
      rotate_left
      · intro X hX
        go_simp
        try with_reducible rfl
      try simp only [Act.put, List.setIfInBounds_toArray, List.set_cons_zero, List.set_cons_succ, List.getElem_toArray, List.getElem_cons_succ, List.getElem_cons_zero]
      refine wpAnyH_take (i := 27) (v := .agg (mcells (hdk 1) (.slice none 0 0)).toArray) rfl (by kernel_rfl) (by kernel_rfl) (by kernel_rfl) (fun _ _ _ h => h) (Or.inl ⟨by rfl, ?_⟩) (by assumption) ?_
      · intro X hX
        exact run_exec_load 36 (.tmp 1) rfl ⟨w.heap.size, 0, none⟩ rfl (run_loadVar_row X (w.heap.size) _ _ (mcells (hdk 1) (.slice none 0 0)).toArray _ _ hX.1 Try.underlying36 rfl (by kernel_rfl))
      try simp only [Act.put, List.setIfInBounds_toArray, List.set_cons_zero, List.set_cons_succ, List.getElem_toArray, List.getElem_cons_succ, List.getElem_cons_zero]
      refine wpAnyH_take (i := 28) (v := .agg (mcells (hdk 2) (.slice none 0 0)).toArray) rfl (by kernel_rfl) (by kernel_rfl) (by kernel_rfl) (fun _ _ _ h => h) (Or.inl ⟨by rfl, ?_⟩) (by assumption) ?_
      · intro X hX
        exact run_exec_load 36 (.tmp 2) rfl ⟨w.heap.size + 1, 0, none⟩ rfl (run_loadVar_row X (w.heap.size + 1) _ _ (mcells (hdk 2) (.slice none 0 0)).toArray _ _ hX.2 Try.underlying36 rfl (by kernel_rfl))
      try simp only [Act.put, List.setIfInBounds_toArray, List.set_cons_zero, List.set_cons_succ, List.getElem_toArray, List.getElem_cons_succ, List.getElem_cons_zero]
      refine wpAnyH_take (i := 29) (v := .agg (mcells (hdk 1) (.slice none 0 0)).toArray) rfl (by kernel_rfl) (by kernel_rfl) (by kernel_rfl) (fun _ _ _ h => h) (Or.inl ⟨by rfl, ?_⟩) (by assumption) ?_
      · intro X hX
        exact run_exec_load 36 (.tmp 1) rfl ⟨w.heap.size, 0, none⟩ rfl (run_loadVar_row X (w.heap.size) _ _ (mcells (hdk 1) (.slice none 0 0)).toArray _ _ hX.1 Try.underlying36 rfl (by kernel_rfl))
      try simp only [Act.put, List.setIfInBounds_toArray, List.set_cons_zero, List.set_cons_succ, List.getElem_toArray, List.getElem_cons_succ, List.getElem_cons_zero]
      refine wpAnyH_ready (rs := [26,30]) (by kernel_rfl) (by simp) (AllReadyH.cons rfl (fun K hK => ?_) (AllReadyH.cons rfl (fun K hK => ?_) AllReadyH.nil))
      · skip
        go_simp
        refine (on_all H3).mono ?_
        rintro e x5 ⟨A5, c5, ms5, rfl, HM5, HE5, HN5, HB5⟩
        have H5 := Lib.hid (H3.out.below HB5.out)
        go_wp2_with fail
        refine hK.out _ _ ?_ (fun hHeld => ?_)
        · with_reducible exact (OFF.out _ _ _ _ H5)
        clear hK K
        try simp only [Act.put, List.setIfInBounds_toArray, List.set_cons_zero, List.set_cons_succ, List.getElem_toArray, List.getElem_cons_succ, List.getElem_cons_zero]
        refine wpAnyH_ready (rs := [30]) (by kernel_rfl) (by simp) (AllReadyH.cons rfl (fun K hK => ?_) AllReadyH.nil)
        refine step_build_known (by kernel_rfl) 27 3 _ #[(0, .agg (mcells (hdk 1) (.slice none 0 0)).toArray), (1, .agg (mcells (hdk 2) (.slice none 0 0)).toArray), (2, .agg (mcells (hdk 1) (.slice none 0 0)).toArray)] rfl (by simp [Act.eval]) (build3 _) ?_
        go_wp2_with fail
        refine hK.out _ _ ?_ (fun hHeld => ?_)
        · with_reducible exact (OFF.out _ _ _ _ (Lib.hid (H5.out.below (below_alloc1 x5 _))))
        clear hK K
        try simp only [Act.put, List.setIfInBounds_toArray, List.set_cons_zero, List.set_cons_succ, List.getElem_toArray, List.getElem_cons_succ, List.getElem_cons_zero]
        refine wpAnyH_ready (rs := [31]) (by kernel_rfl) (by simp) (AllReadyH.cons rfl (fun K hK => ?_) AllReadyH.nil)
        go_simp
        refine (sameAll_any ((HM5.out.read).below (below_alloc1 x5 _)) (lit_read (W := x5) (ms := [mmk 1, mmk 2, mmk 1]) (by decide) lit_three) HE5.out).mono ?_
        rintro e x7 ⟨rfl, HB7⟩
        have H7 := Lib.hid ((H5.out.below (below_alloc1 x5 _)).below HB7)
        go_wp2_with fail
        refine hK.out _ _ ?_ (fun hHeld => ?_)
        · with_reducible exact (OFF.out _ _ _ _ H7)
        clear hK K
        try simp only [Act.put, List.setIfInBounds_toArray, List.set_cons_zero, List.set_cons_succ, List.getElem_toArray, List.getElem_cons_succ, List.getElem_cons_zero]
        refine wpAnyH_take (i := 32) (v := ?_) rfl (by kernel_rfl) (by kernel_rfl) (by kernel_rfl) (fun _ _ _ h => h) (Or.inl ⟨by rfl, ?_⟩) (by assumption) ?_
        rotate_left
        · intro X hX
          go_simp
          try with_reducible rfl
        try simp only [Act.put, List.setIfInBounds_toArray, List.set_cons_zero, List.set_cons_succ, List.getElem_toArray, List.getElem_cons_succ, List.getElem_cons_zero]
        refine wpAnyH_take (i := 33) (v := ?_) rfl (by kernel_rfl) (by kernel_rfl) (by kernel_rfl) (fun _ _ _ h => h) (Or.inl ⟨by rfl, ?_⟩) (by assumption) ?_
        rotate_left
        · intro X hX
          go_simp
          try with_reducible rfl
        try simp only [Act.put, List.setIfInBounds_toArray, List.set_cons_zero, List.set_cons_succ, List.getElem_toArray, List.getElem_cons_succ, List.getElem_cons_zero]
        refine wpAnyH_done (by kernel_rfl) ?_ _
        go_wp2_with fail
        go_meet
        case rel => exact ⟨rfl, H7⟩
      · skip
        refine step_build_known (by kernel_rfl) 27 3 _ #[(0, .agg (mcells (hdk 1) (.slice none 0 0)).toArray), (1, .agg (mcells (hdk 2) (.slice none 0 0)).toArray), (2, .agg (mcells (hdk 1) (.slice none 0 0)).toArray)] rfl (by simp [Act.eval]) (build3 _) ?_
        go_wp2_with fail
        refine hK.out _ _ ?_ (fun hHeld => ?_)
        · with_reducible exact (OFF.out _ _ _ _ (Lib.hid (H3.out.below (below_alloc1 x3 _))))
        clear hK K
        try simp only [Act.put, List.setIfInBounds_toArray, List.set_cons_zero, List.set_cons_succ, List.getElem_toArray, List.getElem_cons_succ, List.getElem_cons_zero]
        have HX := Lib.hid (H3.out.below (below_alloc1 x3 (.cells (mcs [mmk 1, mmk 2, mmk 1]).toArray 36)))
        refine wpAnyH_ready (rs := [26]) (by kernel_rfl) (by simp) (AllReadyH.cons rfl (fun K hK => ?_) AllReadyH.nil)
        go_simp
        refine (on_all HX).mono ?_
        rintro e x5 ⟨A5, c5, ms5, rfl, HM5, HE5, HN5, HB5⟩
        have H5 := Lib.hid (HX.out.below HB5.out)
        go_wp2_with fail
        refine hK.out _ _ ?_ (fun hHeld => ?_)
        · with_reducible exact (OFF.out _ _ _ _ H5)
        clear hK K
        try simp only [Act.put, List.setIfInBounds_toArray, List.set_cons_zero, List.set_cons_succ, List.getElem_toArray, List.getElem_cons_succ, List.getElem_cons_zero]
        refine wpAnyH_ready (rs := [31]) (by kernel_rfl) (by simp) (AllReadyH.cons rfl (fun K hK => ?_) AllReadyH.nil)
        go_simp
        refine (sameAll_any HM5.out.read ((lit_read (W := x3) (ms := [mmk 1, mmk 2, mmk 1]) (by decide) lit_three).below HB5.out) HE5.out).mono ?_
        rintro e x7 ⟨rfl, HB7⟩
        have H7 := Lib.hid (H5.out.below HB7)
        go_wp2_with fail
        refine hK.out _ _ ?_ (fun hHeld => ?_)
        · with_reducible exact (OFF.out _ _ _ _ H7)
        clear hK K
        try simp only [Act.put, List.setIfInBounds_toArray, List.set_cons_zero, List.set_cons_succ, List.getElem_toArray, List.getElem_cons_succ, List.getElem_cons_zero]
        refine wpAnyH_take (i := 32) (v := ?_) rfl (by kernel_rfl) (by kernel_rfl) (by kernel_rfl) (fun _ _ _ h => h) (Or.inl ⟨by rfl, ?_⟩) (by assumption) ?_
        rotate_left
        · intro X hX
          go_simp
          try with_reducible rfl
        try simp only [Act.put, List.setIfInBounds_toArray, List.set_cons_zero, List.set_cons_succ, List.getElem_toArray, List.getElem_cons_succ, List.getElem_cons_zero]
        refine wpAnyH_take (i := 33) (v := ?_) rfl (by kernel_rfl) (by kernel_rfl) (by kernel_rfl) (fun _ _ _ h => h) (Or.inl ⟨by rfl, ?_⟩) (by assumption) ?_
        rotate_left
        · intro X hX
          go_simp
          try with_reducible rfl
        try simp only [Act.put, List.setIfInBounds_toArray, List.set_cons_zero, List.set_cons_succ, List.getElem_toArray, List.getElem_cons_succ, List.getElem_cons_zero]
        refine wpAnyH_done (by kernel_rfl) ?_ _
        go_wp2_with fail
        go_meet
        case rel => exact ⟨rfl, H7⟩
  case rest =>
    obtain ⟨rfl, H3⟩ := hcut
    clear H0 H HSN
    go_wp2_with fail
    refine (on_take 0 H3 (M' := [mlk 2, mlk 1]) (m := mlk 1) (r := true) (by kernel_rfl)).mono ?_
    rintro e w6 ⟨A4, c4, S4, rfl, H4, HV4, HF4, HL4⟩
    have HE4 : Hid (Ents w6 (.slice A4 0 c4) []) := HF4.out.1.ents
    obtain ⟨w7, st7, k7, b7, l7⟩ := box_mail w6 (hdk 1) A4 0 c4
    have H5 : Hid (On W w7 S4 n [mlk 2, mlk 1] w7) := H4.out.rebase HL4.out b7
    have N4 : ¬ S4 w6.heap.size := fun e => by have := HL4.out _ e; omega
    have ST7 := Lib.hid st7
    have K7 := Lib.hid k7
    have HLT7 : Hid (∀ k, S4 k → k < w7.heap.size) := fun k hk => Nat.lt_of_lt_of_le (HL4.out k hk) b7.size
    clear st7 k7 b7 HF4 H4 HL4 HV4 H3
    go_wp2_with (refine wpList_store_run rfl 36 _ _ rfl ⟨w6.heap.size, 0, none⟩ (.agg (mcells (hdk 1) (.slice A4 0 c4)).toArray) rfl rfl ST7.out ?_)
    refine (on_look 0 H5 (M' := [mlk 2, mlk 1]) (m := mlk 2) (r := true) (by kernel_rfl)).mono ?_
    rintro e w8 ⟨A6, c6, S6, rfl, H6, HV6, HF6, HL6⟩
    have HE6 : Hid (Ents w8 (.slice A6 0 c6) []) := HF6.out.1.ents
    obtain ⟨N4', E4⟩ := HV6.out.off l7 N4
    have K8 := Lib.hid (E4.trans K7.out)
    obtain ⟨w9, st9, k9, b9, l9⟩ := box_mail w8 (hdk 2) A6 0 c6
    have H7 : Hid (On W w9 S6 n [mlk 2, mlk 1] w9) := H6.out.rebase HL6.out b9
    have N6 : ¬ S6 w8.heap.size := fun e => by have := HL6.out _ e; omega
    have ST9 := Lib.hid st9
    have l68 := lt_of_block K8.out
    have K9 := Lib.hid ((b9.block w6.heap.size l68).trans K8.out)
    have l69 := Nat.lt_of_lt_of_le l68 b9.size
    have OFG := Lib.hid (fun (M : List Net.Ml) (X : World) (h : Hid (On W w9 S6 n M X)) => (⟨(OFF.out _ _ _ _ h).1, (OFF.out _ _ _ _ h).2, (h.out.off l69 N4').trans K9.out, (h.out.off l9 N6).trans k9⟩ : X.heap[w.heap.size]? = some (.cells (mcells (hdk 1) (.slice none 0 0)).toArray 36 (0, 0)) ∧ X.heap[w.heap.size + 1]? = some (.cells (mcells (hdk 2) (.slice none 0 0)).toArray 36 (0, 0)) ∧ X.heap[w6.heap.size]? = some (.cells (mcells (hdk 1) (.slice A4 0 c4)).toArray 36 (0, 0)) ∧ X.heap[w8.heap.size]? = some (.cells (mcells (hdk 2) (.slice A6 0 c6)).toArray 36 (0, 0))))
    clear st9 HF6 H6 HL6 HV6 K7 ST7 E4 N4 l7 HLT7 K8 H5 N6 N4'
    go_wp2_with (refine wpList_store_run rfl 36 _ _ rfl ⟨w8.heap.size, 0, none⟩ (.agg (mcells (hdk 2) (.slice A6 0 c6)).toArray) rfl rfl ST9.out ?_)
    have G0 : Hid (On W w9 S6 n [mlk 2, mlk 1] w9.drew) := H7.out.drewN 1
    clear ST9 H7 k9 b9 l9 K9 l69 l68
    go_upto_region 7 with fail
    go_cut [0] (fun u wx => u = .bool true ∧ Hid (Below W.heap.size W wx))
    case first =>
      as_aux_lemma =>
        refine wp_region_held_drew (S := fun X => X.heap[w.heap.size]? = some (.cells (mcells (hdk 1) (.slice none 0 0)).toArray 36 (0, 0)) ∧ X.heap[w.heap.size + 1]? = some (.cells (mcells (hdk 2) (.slice none 0 0)).toArray 36 (0, 0)) ∧ X.heap[w6.heap.size]? = some (.cells (mcells (hdk 1) (.slice A4 0 c4)).toArray 36 (0, 0)) ∧ X.heap[w8.heap.size]? = some (.cells (mcells (hdk 2) (.slice A6 0 c6)).toArray 36 (0, 0))) (by kernel_rfl) (OFG.out _ _ G0) (fun hS0 => ?_)
        refine wpAnyH_take (i := 0) (v := ?_) rfl (by kernel_rfl) (by kernel_rfl) (by kernel_rfl) (fun _ _ _ h => h) (Or.inl ⟨by rfl, ?_⟩) (by assumption) ?_
        rotate_left
        · intro X hX
          go_simp
          try with_reducible rfl
        try simp only [Act.put, List.setIfInBounds_toArray, List.set_cons_zero, List.set_cons_succ, List.getElem_toArray, List.getElem_cons_zero]
        refine wpAnyH_take (i := 1) (v := ?_) rfl (by kernel_rfl) (by kernel_rfl) (by kernel_rfl) (fun _ _ _ h => h) (Or.inl ⟨by rfl, ?_⟩) (by assumption) ?_
        rotate_left
        · intro X hX
          go_simp
          try with_reducible rfl
        try simp only [Act.put, List.setIfInBounds_toArray, List.set_cons_zero, List.set_cons_succ, List.getElem_toArray, List.getElem_cons_succ, List.getElem_cons_zero]
        refine wpAnyH_take (i := 2) (v := .agg (mcells (hdk 1) (.slice A4 0 c4)).toArray) rfl (by kernel_rfl) (by kernel_rfl) (by kernel_rfl) (fun _ _ _ h => h) (Or.inl ⟨by rfl, ?_⟩) (by assumption) ?_
        · intro X hX
          exact run_exec_load 36 (.tmp 4) rfl ⟨w6.heap.size, 0, none⟩ rfl (run_loadVar_row X (w6.heap.size) _ _ (mcells (hdk 1) (.slice A4 0 c4)).toArray _ _ hX.2.2.1 Try.underlying36 rfl (by kernel_rfl))
        try simp only [Act.put, List.setIfInBounds_toArray, List.set_cons_zero, List.set_cons_succ, List.getElem_toArray, List.getElem_cons_succ, List.getElem_cons_zero]
        refine wpAnyH_take (i := 3) (v := .agg (mcells (hdk 1) (.slice none 0 0)).toArray) rfl (by kernel_rfl) (by kernel_rfl) (by kernel_rfl) (fun _ _ _ h => h) (Or.inl ⟨by rfl, ?_⟩) (by assumption) ?_
        · intro X hX
          exact run_exec_load 36 (.tmp 1) rfl ⟨w.heap.size, 0, none⟩ rfl (run_loadVar_row X (w.heap.size) _ _ (mcells (hdk 1) (.slice none 0 0)).toArray _ _ hX.1 Try.underlying36 rfl (by kernel_rfl))
        try simp only [Act.put, List.setIfInBounds_toArray, List.set_cons_zero, List.set_cons_succ, List.getElem_toArray, List.getElem_cons_succ, List.getElem_cons_zero]
        refine wpAnyH_ready (rs := [4]) (by kernel_rfl) (by simp) (AllReadyH.cons rfl (fun K hK => ?_) AllReadyH.nil)
        go_simp
        refine (sameMail_any (hdk 1) (es := []) HE4.out.none_ (EOwn.nil w 0).ents0).mono ?_
        rintro e y1 ⟨rfl, HB1⟩
        have G1 := Lib.hid (G0.out.below HB1)
        go_wp2_with fail
        refine hK.out _ _ ?_ (fun hHeld => ?_)
        · with_reducible exact (OFG.out _ _ G1)
        clear hK K
        try simp only [Act.put, List.setIfInBounds_toArray, List.set_cons_zero, List.set_cons_succ, List.getElem_toArray, List.getElem_cons_succ, List.getElem_cons_zero]
        refine wpAnyH_take (i := 5) (v := ?_) rfl (by kernel_rfl) (by kernel_rfl) (by kernel_rfl) (fun _ _ _ h => h) (Or.inl ⟨by rfl, ?_⟩) (by assumption) ?_
        rotate_left
        · intro X hX
          go_simp
          try with_reducible rfl
        try simp only [Act.put, List.setIfInBounds_toArray, List.set_cons_zero, List.set_cons_succ, List.getElem_toArray, List.getElem_cons_succ, List.getElem_cons_zero]
        refine wpAnyH_take (i := 6) (v := ?_) rfl (by kernel_rfl) (by kernel_rfl) (by kernel_rfl) (fun _ _ _ h => h) (Or.inl ⟨by rfl, ?_⟩) (by assumption) ?_
        rotate_left
        · intro X hX
          go_simp
          try with_reducible rfl
        try simp only [Act.put, List.setIfInBounds_toArray, List.set_cons_zero, List.set_cons_succ, List.getElem_toArray, List.getElem_cons_succ, List.getElem_cons_zero]
        refine wpAnyH_take (i := 7) (v := ?_) rfl (by kernel_rfl) (by kernel_rfl) (by kernel_rfl) (fun _ _ _ h => h) (Or.inl ⟨by rfl, ?_⟩) (by assumption) ?_
        rotate_left
        · intro X hX
          go_simp
          try with_reducible rfl
        try simp only [Act.put, List.setIfInBounds_toArray, List.set_cons_zero, List.set_cons_succ, List.getElem_toArray, List.getElem_cons_succ, List.getElem_cons_zero]
        refine wpAnyH_take (i := 8) (v := ?_) rfl (by kernel_rfl) (by kernel_rfl) (by kernel_rfl) (fun _ _ _ h => h) (Or.inl ⟨by rfl, ?_⟩) (by assumption) ?_
        rotate_left
        · intro X hX
          go_simp
          try with_reducible rfl
        try simp only [Act.put, List.setIfInBounds_toArray, List.set_cons_zero, List.set_cons_succ, List.getElem_toArray, List.getElem_cons_succ, List.getElem_cons_zero]
        refine wpAnyH_take (i := 9) (v := ?_) rfl (by kernel_rfl) (by kernel_rfl) (by kernel_rfl) (fun _ _ _ h => h) (Or.inl ⟨by rfl, ?_⟩) (by assumption) ?_
        rotate_left
        · intro X hX
          go_simp
          try with_reducible rfl
        try simp only [Act.put, List.setIfInBounds_toArray, List.set_cons_zero, List.set_cons_succ, List.getElem_toArray, List.getElem_cons_succ, List.getElem_cons_zero]
        refine wpAnyH_take (i := 10) (v := .agg (mcells (hdk 2) (.slice A6 0 c6)).toArray) rfl (by kernel_rfl) (by kernel_rfl) (by kernel_rfl) (fun _ _ _ h => h) (Or.inl ⟨by rfl, ?_⟩) (by assumption) ?_
        · intro X hX
          exact run_exec_load 36 (.tmp 6) rfl ⟨w8.heap.size, 0, none⟩ rfl (run_loadVar_row X (w8.heap.size) _ _ (mcells (hdk 2) (.slice A6 0 c6)).toArray _ _ hX.2.2.2 Try.underlying36 rfl (by kernel_rfl))
        try simp only [Act.put, List.setIfInBounds_toArray, List.set_cons_zero, List.set_cons_succ, List.getElem_toArray, List.getElem_cons_succ, List.getElem_cons_zero]
        refine wpAnyH_take (i := 11) (v := .agg (mcells (hdk 2) (.slice none 0 0)).toArray) rfl (by kernel_rfl) (by kernel_rfl) (by kernel_rfl) (fun _ _ _ h => h) (Or.inl ⟨by rfl, ?_⟩) (by assumption) ?_
        · intro X hX
          exact run_exec_load 36 (.tmp 2) rfl ⟨w.heap.size + 1, 0, none⟩ rfl (run_loadVar_row X (w.heap.size + 1) _ _ (mcells (hdk 2) (.slice none 0 0)).toArray _ _ hX.2.1 Try.underlying36 rfl (by kernel_rfl))
        try simp only [Act.put, List.setIfInBounds_toArray, List.set_cons_zero, List.set_cons_succ, List.getElem_toArray, List.getElem_cons_succ, List.getElem_cons_zero]
        refine wpAnyH_ready (rs := [12]) (by kernel_rfl) (by simp) (AllReadyH.cons rfl (fun K hK => ?_) AllReadyH.nil)
        go_simp
        refine (sameMail_any (hdk 2) (es := []) HE6.out.none_ (EOwn.nil w 0).ents0).mono ?_
        rintro e y2 ⟨rfl, HB2⟩
        have G2 := Lib.hid (G1.out.below HB2)
        go_wp2_with fail
        refine hK.out _ _ ?_ (fun hHeld => ?_)
        · with_reducible exact (OFG.out _ _ G2)
        clear hK K
        try simp only [Act.put, List.setIfInBounds_toArray, List.set_cons_zero, List.set_cons_succ, List.getElem_toArray, List.getElem_cons_succ, List.getElem_cons_zero]
        refine wpAnyH_take (i := 13) (v := ?_) rfl (by kernel_rfl) (by kernel_rfl) (by kernel_rfl) (fun _ _ _ h => h) (Or.inl ⟨by rfl, ?_⟩) (by assumption) ?_
        rotate_left
        · intro X hX
          go_simp
          try with_reducible rfl
        try simp only [Act.put, List.setIfInBounds_toArray, List.set_cons_zero, List.set_cons_succ, List.getElem_toArray, List.getElem_cons_succ, List.getElem_cons_zero]
        refine wpAnyH_take (i := 14) (v := ?_) rfl (by kernel_rfl) (by kernel_rfl) (by kernel_rfl) (fun _ _ _ h => h) (Or.inl ⟨by rfl, ?_⟩) (by assumption) ?_
        rotate_left
        · intro X hX
          go_simp
          try with_reducible rfl
        try simp only [Act.put, List.setIfInBounds_toArray, List.set_cons_zero, List.set_cons_succ, List.getElem_toArray, List.getElem_cons_succ, List.getElem_cons_zero]
        refine wpAnyH_take (i := 15) (v := ?_) rfl (by kernel_rfl) (by kernel_rfl) (by kernel_rfl) (fun _ _ _ h => h) (Or.inl ⟨by rfl, ?_⟩) (by assumption) ?_
        rotate_left
        · intro X hX
          go_simp
          try with_reducible rfl
        try simp only [Act.put, List.setIfInBounds_toArray, List.set_cons_zero, List.set_cons_succ, List.getElem_toArray, List.getElem_cons_succ, List.getElem_cons_zero]
        refine wpAnyH_ready (rs := [16]) (by kernel_rfl) (by simp) (AllReadyH.cons rfl (fun K hK => ?_) AllReadyH.nil)
        go_simp
        refine (on_drop 5 G2 (M' := [mlk 2, mlk 1]) (m := Net.ml0) (r := false) (by kernel_rfl)).mono ?_
        rintro e y3 ⟨rfl, G3⟩
        go_wp2_with fail
        refine hK.out _ _ ?_ (fun hHeld => ?_)
        · with_reducible exact (OFG.out _ _ G3)
        clear hK K
        try simp only [Act.put, List.setIfInBounds_toArray, List.set_cons_zero, List.set_cons_succ, List.getElem_toArray, List.getElem_cons_succ, List.getElem_cons_zero]
        refine wpAnyH_take (i := 17) (v := ?_) rfl (by kernel_rfl) (by kernel_rfl) (by kernel_rfl) (fun _ _ _ h => h) (Or.inl ⟨by rfl, ?_⟩) (by assumption) ?_
        rotate_left
        · intro X hX
          go_simp
          try with_reducible rfl
        try simp only [Act.put, List.setIfInBounds_toArray, List.set_cons_zero, List.set_cons_succ, List.getElem_toArray, List.getElem_cons_succ, List.getElem_cons_zero]
        refine wpAnyH_take (i := 18) (v := ?_) rfl (by kernel_rfl) (by kernel_rfl) (by kernel_rfl) (fun _ _ _ h => h) (Or.inl ⟨by rfl, ?_⟩) (by assumption) ?_
        rotate_left
        · intro X hX
          go_simp
          try with_reducible rfl
        try simp only [Act.put, List.setIfInBounds_toArray, List.set_cons_zero, List.set_cons_succ, List.getElem_toArray, List.getElem_cons_succ, List.getElem_cons_zero]
        refine wpAnyH_take (i := 19) (v := ?_) rfl (by kernel_rfl) (by kernel_rfl) (by kernel_rfl) (fun _ _ _ h => h) (Or.inl ⟨by rfl, ?_⟩) (by assumption) ?_
        rotate_left
        · intro X hX
          go_simp
          try with_reducible rfl
        try simp only [Act.put, List.setIfInBounds_toArray, List.set_cons_zero, List.set_cons_succ, List.getElem_toArray, List.getElem_cons_succ, List.getElem_cons_zero]
        refine wpAnyH_take (i := 20) (v := ?_) rfl (by kernel_rfl) (by kernel_rfl) (by kernel_rfl) (fun _ _ _ h => h) (Or.inl ⟨by rfl, ?_⟩) (by assumption) ?_
        rotate_left
        · intro X hX
          go_simp
          try with_reducible rfl
        try simp only [Act.put, List.setIfInBounds_toArray, List.set_cons_zero, List.set_cons_succ, List.getElem_toArray, List.getElem_cons_succ, List.getElem_cons_zero]
        refine wpAnyH_ready (rs := [21]) (by kernel_rfl) (by simp) (AllReadyH.cons rfl (fun K hK => ?_) AllReadyH.nil)
        go_simp
        refine (on_drop 0 G3 (M' := [mlk 1]) (m := mlk 2) (r := true) (by kernel_rfl)).mono ?_
        rintro e y4 ⟨rfl, G4⟩
        go_wp2_with fail
        refine hK.out _ _ ?_ (fun hHeld => ?_)
        · with_reducible exact (OFG.out _ _ G4)
        clear hK K
        try simp only [Act.put, List.setIfInBounds_toArray, List.set_cons_zero, List.set_cons_succ, List.getElem_toArray, List.getElem_cons_succ, List.getElem_cons_zero]
        refine wpAnyH_take (i := 22) (v := ?_) rfl (by kernel_rfl) (by kernel_rfl) (by kernel_rfl) (fun _ _ _ h => h) (Or.inl ⟨by rfl, ?_⟩) (by assumption) ?_
        rotate_left
        · intro X hX
          go_simp
          try with_reducible rfl
        try simp only [Act.put, List.setIfInBounds_toArray, List.set_cons_zero, List.set_cons_succ, List.getElem_toArray, List.getElem_cons_succ, List.getElem_cons_zero]
        refine wpAnyH_take (i := 23) (v := ?_) rfl (by kernel_rfl) (by kernel_rfl) (by kernel_rfl) (fun _ _ _ h => h) (Or.inl ⟨by rfl, ?_⟩) (by assumption) ?_
        rotate_left
        · intro X hX
          go_simp
          try with_reducible rfl
        try simp only [Act.put, List.setIfInBounds_toArray, List.set_cons_zero, List.set_cons_succ, List.getElem_toArray, List.getElem_cons_succ, List.getElem_cons_zero]
        refine wpAnyH_take (i := 24) (v := ?_) rfl (by kernel_rfl) (by kernel_rfl) (by kernel_rfl) (fun _ _ _ h => h) (Or.inl ⟨by rfl, ?_⟩) (by assumption) ?_
        rotate_left
        · intro X hX
          go_simp
          try with_reducible rfl
        try simp only [Act.put, List.setIfInBounds_toArray, List.set_cons_zero, List.set_cons_succ, List.getElem_toArray, List.getElem_cons_succ, List.getElem_cons_zero]
        refine wpAnyH_take (i := 26) (v := .agg (mcells (hdk 1) (.slice none 0 0)).toArray) rfl (by kernel_rfl) (by kernel_rfl) (by kernel_rfl) (fun _ _ _ h => h) (Or.inl ⟨by rfl, ?_⟩) (by assumption) ?_
        · intro X hX
          exact run_exec_load 36 (.tmp 1) rfl ⟨w.heap.size, 0, none⟩ rfl (run_loadVar_row X (w.heap.size) _ _ (mcells (hdk 1) (.slice none 0 0)).toArray _ _ hX.1 Try.underlying36 rfl (by kernel_rfl))
        try simp only [Act.put, List.setIfInBounds_toArray, List.set_cons_zero, List.set_cons_succ, List.getElem_toArray, List.getElem_cons_succ, List.getElem_cons_zero]
        refine wpAnyH_ready (rs := [25,27]) (by kernel_rfl) (by simp) (AllReadyH.cons rfl (fun K hK => ?_) (AllReadyH.cons rfl (fun K hK => ?_) AllReadyH.nil))
        · skip
          go_simp
          refine (on_all G4).mono ?_
          rintro e x5 ⟨A5, c5, ms5, rfl, HM5, HE5, HN5, HB5⟩
          have G5 := Lib.hid (G4.out.below HB5.out)
          go_wp2_with fail
          refine hK.out _ _ ?_ (fun hHeld => ?_)
          · with_reducible exact (OFG.out _ _ G5)
          clear hK K
          try simp only [Act.put, List.setIfInBounds_toArray, List.set_cons_zero, List.set_cons_succ, List.getElem_toArray, List.getElem_cons_succ, List.getElem_cons_zero]
          refine wpAnyH_ready (rs := [27]) (by kernel_rfl) (by simp) (AllReadyH.cons rfl (fun K hK => ?_) AllReadyH.nil)
          refine step_build_known (by kernel_rfl) 27 1 _ #[(0, .agg (mcells (hdk 1) (.slice none 0 0)).toArray)] rfl (by simp [Act.eval]) (build1 _) ?_
          go_wp2_with fail
          refine hK.out _ _ ?_ (fun hHeld => ?_)
          · with_reducible exact (OFG.out _ _ (Lib.hid (G5.out.below (below_alloc1 x5 _))))
          clear hK K
          try simp only [Act.put, List.setIfInBounds_toArray, List.set_cons_zero, List.set_cons_succ, List.getElem_toArray, List.getElem_cons_succ, List.getElem_cons_zero]
          refine wpAnyH_ready (rs := [28]) (by kernel_rfl) (by simp) (AllReadyH.cons rfl (fun K hK => ?_) AllReadyH.nil)
          go_simp
          refine (sameAll_any ((HM5.out.read).below (below_alloc1 x5 _)) (lit_read (W := x5) (ms := [mmk 1]) (by decide) lit_one) HE5.out).mono ?_
          rintro e x7 ⟨rfl, HB7⟩
          have G7 := Lib.hid ((G5.out.below (below_alloc1 x5 _)).below HB7)
          go_wp2_with fail
          refine hK.out _ _ ?_ (fun hHeld => ?_)
          · with_reducible exact (OFG.out _ _ G7)
          clear hK K
          try simp only [Act.put, List.setIfInBounds_toArray, List.set_cons_zero, List.set_cons_succ, List.getElem_toArray, List.getElem_cons_succ, List.getElem_cons_zero]
          refine wpAnyH_take (i := 29) (v := ?_) rfl (by kernel_rfl) (by kernel_rfl) (by kernel_rfl) (fun _ _ _ h => h) (Or.inl ⟨by rfl, ?_⟩) (by assumption) ?_
          rotate_left
          · intro X hX
            go_simp
            try with_reducible rfl
          try simp only [Act.put, List.setIfInBounds_toArray, List.set_cons_zero, List.set_cons_succ, List.getElem_toArray, List.getElem_cons_succ, List.getElem_cons_zero]
          refine wpAnyH_take (i := 30) (v := ?_) rfl (by kernel_rfl) (by kernel_rfl) (by kernel_rfl) (fun _ _ _ h => h) (Or.inl ⟨by rfl, ?_⟩) (by assumption) ?_
          rotate_left
          · intro X hX
            go_simp
            try with_reducible rfl
          try simp only [Act.put, List.setIfInBounds_toArray, List.set_cons_zero, List.getElem_toArray, List.getElem_cons_succ, List.getElem_cons_zero]
          refine wpAnyH_done (by kernel_rfl) ?_ _
          go_wp2_with fail
          go_meet
          case rel => exact ⟨rfl, Lib.hid G7.out.bel⟩
        · skip
          refine step_build_known (by kernel_rfl) 27 1 _ #[(0, .agg (mcells (hdk 1) (.slice none 0 0)).toArray)] rfl (by simp [Act.eval]) (build1 _) ?_
          go_wp2_with fail
          refine hK.out _ _ ?_ (fun hHeld => ?_)
          · with_reducible exact (OFG.out _ _ (Lib.hid (G4.out.below (below_alloc1 y4 _))))
          clear hK K
          try simp only [Act.put, List.setIfInBounds_toArray, List.set_cons_zero, List.set_cons_succ, List.getElem_toArray, List.getElem_cons_succ, List.getElem_cons_zero]
          have HX := Lib.hid (G4.out.below (below_alloc1 y4 (.cells (mcs [mmk 1]).toArray 36)))
          refine wpAnyH_ready (rs := [25]) (by kernel_rfl) (by simp) (AllReadyH.cons rfl (fun K hK => ?_) AllReadyH.nil)
          go_simp
          refine (on_all HX).mono ?_
          rintro e x5 ⟨A5, c5, ms5, rfl, HM5, HE5, HN5, HB5⟩
          have G5 := Lib.hid (HX.out.below HB5.out)
          go_wp2_with fail
          refine hK.out _ _ ?_ (fun hHeld => ?_)
          · with_reducible exact (OFG.out _ _ G5)
          clear hK K
          try simp only [Act.put, List.setIfInBounds_toArray, List.set_cons_zero, List.set_cons_succ, List.getElem_toArray, List.getElem_cons_succ, List.getElem_cons_zero]
          refine wpAnyH_ready (rs := [28]) (by kernel_rfl) (by simp) (AllReadyH.cons rfl (fun K hK => ?_) AllReadyH.nil)
          go_simp
          refine (sameAll_any HM5.out.read ((lit_read (W := y4) (ms := [mmk 1]) (by decide) lit_one).below HB5.out) HE5.out).mono ?_
          rintro e x7 ⟨rfl, HB7⟩
          have G7 := Lib.hid (G5.out.below HB7)
          go_wp2_with fail
          refine hK.out _ _ ?_ (fun hHeld => ?_)
          · with_reducible exact (OFG.out _ _ G7)
          clear hK K
          try simp only [Act.put, List.setIfInBounds_toArray, List.set_cons_zero, List.set_cons_succ, List.getElem_toArray, List.getElem_cons_succ, List.getElem_cons_zero]
          refine wpAnyH_take (i := 29) (v := ?_) rfl (by kernel_rfl) (by kernel_rfl) (by kernel_rfl) (fun _ _ _ h => h) (Or.inl ⟨by rfl, ?_⟩) (by assumption) ?_
          rotate_left
          · intro X hX
            go_simp
            try with_reducible rfl
          try simp only [Act.put, List.setIfInBounds_toArray, List.set_cons_zero, List.set_cons_succ, List.getElem_toArray, List.getElem_cons_succ, List.getElem_cons_zero]
          refine wpAnyH_take (i := 30) (v := ?_) rfl (by kernel_rfl) (by kernel_rfl) (by kernel_rfl) (fun _ _ _ h => h) (Or.inl ⟨by rfl, ?_⟩) (by assumption) ?_
          rotate_left
          · intro X hX
            go_simp
            try with_reducible rfl
          try simp only [Act.put, List.setIfInBounds_toArray, List.set_cons_zero, List.getElem_toArray, List.getElem_cons_succ, List.getElem_cons_zero]
          refine wpAnyH_done (by kernel_rfl) ?_ _
          go_wp2_with fail
          go_meet
          case rel => exact ⟨rfl, Lib.hid G7.out.bel⟩
    case rest =>
      obtain ⟨rfl, HF⟩ := hcut
      go_wp2_with fail
      go_ret
      exact ⟨rfl, HB0.out.trans (HF.out.mono HB0.out.size)⟩
end Go.Proofs.Ytlejlmlgcehjiaa
