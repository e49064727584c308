/-
  A message is taken out of the net: cut.
-/
import Derived.Test.YtlejlmlgcehjiaaNTell
import Derived.Deep.RegionLaw
namespace Go.Proofs.Ytlejlmlgcehjiaa
open Go.RowKit
section
variable {P : Program}
/-- A store whose run is known, in the walk. -/
theorem wpList_store_run {ops : Array Oper} {rest : List Oper} {o : Oper} {a : Act} {w w' : World} {Q : Exit → Act → World → Prop} (hgd : o.guard = none) (ty : TypeId) (x y : Operand) (ho : o.op = .store ty x y)
    (ad : Addr) (v : Value) (hx : a.eval x = .pointer (some ad)) (hy : a.eval y = v) (hr : (storeVar ty ad v).run P w = .ok () w') (h : wpList P ops Q rest (a.put o.dst undef) w') : wpList P ops Q (o :: rest) a w :=
  wpList_plain hgd fun K hK => by
    unfold Oper.wp execOp
    simp only [ho, hx, hy, Instr.storeAt, Instr.sureAddr, Sem.run_bind, Sem.run_pure, Result.andThen_ok, hr]
    exact hK _ _ h
end
theorem Try.map_mail : (Try.prog.info? 36).map (·.size) = some 18 := by kernel_rfl
/-- A message stored at a place of a row. -/
theorem store_mail_at {W : World} {g o : Nat} {cur : Array Value} {t : TypeId} (h : Net.Hd) (A : Option Addr) (n c : Nat) (hg : W.heap[g]? = some (.cells cur t (0, 0))) (ho : o + 18 ≤ cur.size) :
    (storeVar 36 ⟨g, o, none⟩ (.agg (mcells h (.slice A n c)).toArray)).run Try.prog W = .ok () (W.setRow g (cur.toList.take o ++ mcells h (.slice A n c) ++ cur.toList.drop (o + 18)).toArray) := by
  have hst := run_storeCells_at (P := Try.prog) g o t (mcells h (.slice A n c)) 0 cur W hg (by rw [Nat.add_zero]; exact ho) (mcells_one h rfl)
  obtain ⟨i0, hi, hz0, hz1, hz2⟩ := info_parts Try.info_mail
  have hl : (mcells h (.slice A n c)).length = 18 := rfl
  simp only [Nat.add_zero, hl] at hst
  simp [storeVar, sizeOf, typeInfo, hi, hz1, Value.cells, hl, hst]
theorem mcs_erase (ms : List MM) {p : Nat} (hp : p < ms.length) : mcs (ms.eraseIdx p) = (mcs ms).take (p * 18) ++ (mcs ms).drop ((p + 1) * 18) := by
  rw [(mcs_take ms p (by omega)).1, (mcs_take ms (p + 1) hp).2, ← mcs_append, List.eraseIdx_eq_take_drop_succ]
theorem del_mail (cur xs : List Value) (n p : Nat) (hp : p < n) (hx : xs.length = n * 18) (ht : cur.take (n * 18) = xs) :
    (cur.take (p * 18) ++ xs.drop ((p + 1) * 18) ++ cur.drop (p * 18 + (xs.drop ((p + 1) * 18)).length)).take ((n - 1) * 18) = xs.take (p * 18) ++ xs.drop ((p + 1) * 18) := by
  have e : cur.take (p * 18) = xs.take (p * 18) := by rw [← ht, List.take_take, Nat.min_eq_left (by omega)]
  rw [e]
  refine List.take_left' ?_
  simp only [List.length_append, List.length_take, List.length_drop, hx]
  omega
section
variable {w w' : World} {n : Nat} {M : List Net.Ml} {S : Nat → Prop}
/-- The net behind a cut. -/
theorem NetAt.cut {W Wf Wg : World} {v v' : Value} {ms : List MM} {i : Nat} (h : NetAt HN W n M S v ms) (hi : i < ms.length) (hf : Foot (fun k => v.ownBlock = some k) W Wf) (hv : v'.ownBlock = v.ownBlock)
    (hr : Wf.ownsRow 0 36 18 v' (ms.eraseIdx i).length (mcs (ms.eraseIdx i))) (hg : Foot (fun k => k = n) Wf Wg) (hh : Wg.heap[n]? = some (HN v')) : ToldAt W n S (M.eraseIdx i, ms[i].ml, true) ms[i].v Wg := by
  have hsub := List.eraseIdx_sublist ms i
  have hM := h.mails.some_ hsub hf hr (fun k e => .inl (by rw [← hv]; exact e))
  have hof : ∀ k, OfMails v' (ms.eraseIdx i) k → OfMails v ms k := fun k hk => by
    rcases hk with e | ⟨m, hm, e⟩
    · exact .inl (by rw [← hv]; exact e)
    · exact .inr ⟨m, hsub.subset hm, e⟩
  have hMg := hM.foot hg fun k hk => h.offn k (hof k hk)
  have hap := List.pairwise_iff_getElem.1 h.mails.apart
  have hmem := List.getElem_mem hi
  have hE := (h.mails.own _ hmem).foot hf fun k e1 e2 => h.mails.off _ hmem k e1 e2
  have hEg := hE.foot hg fun k e1 => h.offn k (.inr ⟨_, hmem, e1⟩)
  refine ⟨fun k => S k ∧ ms[i].v.ownBlock ≠ some k, ⟨v', ms.eraseIdx i, hh, hMg, fun k hk => h.offn k (hof k hk), ?_, ?_, ⟨h.inn, fun e => h.offn n (.inr ⟨_, hmem, e⟩) rfl⟩, fun k hk => ⟨h.inS k (hof k hk), fun e => ?_⟩, fun k hk => Nat.lt_of_lt_of_le (h.lt k hk.1) (Nat.le_trans hf.size hg.size)⟩, ?_, fun k hk => .inl hk.1, hEg, fun k hk => ⟨fun e => e.2 hk, .inl (h.inS k (.inr ⟨_, hmem, hk⟩))⟩⟩
  · show _ = M.eraseIdx i
    rw [← h.ml]
    rw [List.eraseIdx_eq_take_drop_succ, List.eraseIdx_eq_take_drop_succ, List.map_append, List.map_take, List.map_drop]
  · show (M.eraseIdx i).length ≤ 512
    have := h.few
    have := List.length_eraseIdx_le M i
    omega
  · rcases hk with e2 | ⟨m, hm, e2⟩
    · exact h.mails.off _ hmem k e (by rw [← hv]; exact e2)
    · obtain ⟨j, hj, rfl⟩ := List.getElem_of_mem hm
      rw [List.getElem_eraseIdx] at e2
      split at e2
      · exact hap j i (by omega) hi (by omega) k e2 e
      · exact hap i (j + 1) hi (by rw [List.length_eraseIdx_of_lt hi] at hj; omega) (by omega) k e e2
  · exact (hf.mono (S' := S) fun k _ e => h.inS k (.inl e)).trans hg fun k _ e => by rw [e]; exact h.inn
set_option maxRecDepth 100000 in
set_option maxHeartbeats 3000000 in
theorem cut_any {i : Nat} (hi : i < M.length) (h : IsNet HN w n M S) : Calls Try.prog 34 #[.pointer (some ⟨n, 0, none⟩), .int .i64 (i : Int)] w (Told w n S (M.eraseIdx i, M[i], true)) := by
  have hlt0 := fun k hk => h.lt (k := k) hk
  obtain ⟨Wa, hWa⟩ : ∃ Wa, Wa = w.alloc (.cells #[.int .i64 0, .int .i64 0, .int .i64 0, .int .i64 0, .int .i64 0, .int .i64 0, .int .i64 0, .int .i64 0, .int .i64 0, .slice none 0 0, .int .i64 0, .int .i64 0, .int .i64 0, .int .i64 0, .int .i64 0, .int .i64 0, .int .i64 0, .int .i64 0] 36) := ⟨_, rfl⟩
  obtain ⟨W, hW⟩ : ∃ W, W = Wa.alloc (.cells #[.int .i64 0, .int .i64 0, .int .i64 0, .int .i64 0, .int .i64 0, .int .i64 0, .int .i64 0, .int .i64 0, .int .i64 0, .slice none 0 0, .int .i64 0, .int .i64 0, .int .i64 0, .int .i64 0, .int .i64 0, .int .i64 0, .int .i64 0, .int .i64 0] 36) := ⟨_, rfl⟩
  have hba : Below w.heap.size w Wa := by rw [hWa]; exact (Below.refl _ _).alloc (Nat.le_refl _) _
  have hsa : Wa.heap.size = w.heap.size + 1 := by rw [hWa]; simp
  have hbab : Below Wa.heap.size Wa W := by rw [hW]; exact (Below.refl _ _).alloc (Nat.le_refl _) _
  have hb0 : Below w.heap.size w W := hba.trans (hbab.mono hba.size)
  have n1 : W.heap[w.heap.size]? = some (.cells #[.int .i64 0, .int .i64 0, .int .i64 0, .int .i64 0, .int .i64 0, .int .i64 0, .int .i64 0, .int .i64 0, .int .i64 0, .slice none 0 0, .int .i64 0, .int .i64 0, .int .i64 0, .int .i64 0, .int .i64 0, .int .i64 0, .int .i64 0, .int .i64 0] 36 (0, 0)) := by rw [hW, hWa]; exact heap_alloc2_old w _ _
  have n2 : W.heap[w.heap.size + 1]? = some (.cells #[.int .i64 0, .int .i64 0, .int .i64 0, .int .i64 0, .int .i64 0, .int .i64 0, .int .i64 0, .int .i64 0, .int .i64 0, .slice none 0 0, .int .i64 0, .int .i64 0, .int .i64 0, .int .i64 0, .int .i64 0, .int .i64 0, .int .i64 0, .int .i64 0] 36 (0, 0)) := by rw [hW, hWa]; exact heap_alloc2_new w _ _
  have hsz : W.heap.size = w.heap.size + 2 := by rw [hW, hWa]; simp
  obtain ⟨v, ms, hA⟩ := h
  have hi' : i < ms.length := by rw [hA.len]; exact hi
  have h0 := hA.below hb0
  have ha := hA.below hba
  obtain ⟨g, c, rfl, h1, h2, h3, h4, h5⟩ := ha.mails.at_ hi'
  have ca := (hn_cells ha.head).2.1
  have hm : M[i] = ms[i].ml := by simp only [← hA.ml, List.getElem_map]
  obtain ⟨A, cv, hv⟩ : ∃ A cv, ms[i].v = .slice A ms[i].es.length cv := by
    obtain ⟨A, c, e, _⟩ := own_is_slice (hA.mails.own _ (List.getElem_mem hi'))
    exact ⟨A, c, e⟩
  have hld := run_load_mail (W := Wa) (g := g) (o := i * 18) (h := ms[i].h) (v := ms[i].v) h4
  rw [hv] at hld
  obtain ⟨W1, hst1, b1, f1⟩ := store_mail ms[i].h A ms[i].es.length cv n2 rfl
  have hA1 := h0.foot f1 fun k hk e => by have := hA.lt k hk; omega
  obtain ⟨k0, k1, kz⟩ := hn_cells hA1.head
  rcases hA1.mails.row.2 with ⟨hv', _⟩ | ⟨g', c', cur, hv', _, hg, hnc, hcm, hcs, htk⟩
  · cases hv'
  injection hv' with hv1 _ hv2
  injection hv1 with hv1
  injection hv1 with hv1
  subst hv1; subst hv2
  have HONE := mcs_one hA1.mails
  have hxl := mcs_len ms
  have hdl : ((mcs ms).drop ((i + 1) * 18)).length = (ms.length - (i + 1)) * 18 := by rw [List.length_drop, hxl]; omega
  obtain ⟨sp, hsp⟩ : ∃ sp : Addr, sp = if c = i + 1 then (⟨g, 0, none⟩ : Addr) else ⟨g, (i + 1) * 18, none⟩ := ⟨_, rfl⟩
  have hcp : ∀ dc sc, (Builtin.copy_ #[27, 27] 3 #[.slice (some ⟨g, i * 18, none⟩) (ms.length - i) dc, .slice (some sp) (ms.length - (i + 1)) sc]).run Try.prog W1.drew =
      .ok (goInt ((ms.length - (i + 1) : Nat) : Int)) (W1.drew.setRow g (cur.toList.take (i * 18) ++ (mcs ms).drop ((i + 1) * 18) ++ cur.toList.drop (i * 18 + ((mcs ms).drop ((i + 1) * 18)).length)).toArray) := fun dc sc =>
    run_copy_sized (P := Try.prog) W1.drew 27 27 3 36 18 g (i * 18) (ms.length - i) dc sp (ms.length - (i + 1)) sc cur 36 ((mcs ms).drop ((i + 1) * 18)) (ms.length - (i + 1))
      Try.underlying27 Try.map_mail hg (by simp only [Nat.min_def]; split <;> omega) hdl (fun j u hu => by
        rw [hsp]
        have hj := (List.getElem?_eq_some_iff.1 hu).1
        rw [hdl] at hj
        rw [if_neg (by omega), Addr.add_lit]
        rw [List.getElem?_drop, ← htk, List.getElem?_take] at hu
        split at hu
        · rw [cell_of_row W1.drew g _ _ _ _ hg]; simpa using hu
        · cases hu) (by rw [hdl, hcs]; omega) (fun u hu => HONE u (List.mem_of_mem_drop hu))
  obtain ⟨R1, hR1⟩ : ∃ R1, R1 = cur.toList.take (i * 18) ++ (mcs ms).drop ((i + 1) * 18) ++ cur.toList.drop (i * 18 + ((mcs ms).drop ((i + 1) * 18)).length) := ⟨_, rfl⟩
  have hdr := del_mail cur.toList (mcs ms) ms.length i hi' hxl htk
  rw [← hR1] at hcp hdr
  have hR1l : R1.length = c * 18 := by
    rw [hR1]; simp only [List.length_append, List.length_take, List.length_drop, Array.length_toList, hcs, hxl]; omega
  rw [← mcs_erase ms hi'] at hdr
  have hlen : (ms.eraseIdx i).length = ms.length - 1 := List.length_eraseIdx_of_lt hi'
  obtain ⟨W2, hW2⟩ : ∃ W2, W2 = W1.drew.setRow g R1.toArray := ⟨_, rfl⟩
  rw [← hW2] at hcp
  have hg2 : W2.heap[g]? = some (.cells R1.toArray 36 (0, 0)) := by rw [hW2]; exact setRow_heap W1.drew g cur _ _ _ hg
  obtain ⟨k, hk⟩ : ∃ k, ms.length = k + 1 := ⟨ms.length - 1, by omega⟩
  have hsz0 := store_mail_at (W := W2) (o := k * 18) Net.hd0 none 0 0 hg2 (by rw [List.size_toArray, hR1l]; omega)
  obtain ⟨R2, hR2⟩ : ∃ R2, R2 = R1.toArray.toList.take (k * 18) ++ mcells Net.hd0 (.slice none 0 0) ++ R1.toArray.toList.drop (k * 18 + 18) := ⟨_, rfl⟩
  rw [← hR2] at hsz0
  obtain ⟨W3, hW3⟩ : ∃ W3, W3 = W2.setRow g R2.toArray := ⟨_, rfl⟩
  rw [← hW3] at hsz0
  have hg3 : W3.heap[g]? = some (.cells R2.toArray 36 (0, 0)) := by rw [hW3]; exact setRow_heap W2 g _ _ _ _ hg2
  have hgn : g ≠ n := hA.offn g (.inl rfl)
  have hgl : g < w.heap.size := hA.lt g (hA.inS g (.inl rfl))
  have f2 : Foot (fun k => k = g) W1 W2 := by rw [hW2]; exact (Foot.drew _ W1).trans (Foot.row (fun k => k = g) _ g _ rfl) fun _ _ h => h
  have f3 : Foot (fun k => k = g) W1 W3 := f2.trans (by rw [hW3]; exact Foot.row (fun k => k = g) _ g _ rfl) fun _ _ h => h
  have hl0 : (mcells Net.hd0 (.slice none 0 0)).length = 18 := rfl
  have hR2l : R2.length = c * 18 := by rw [hR2]; simp only [List.length_append, List.length_take, List.length_drop, hl0, hR1l]; omega
  have hrow : W3.ownsRow 0 36 18 (.slice (some ⟨g, 0, none⟩) k c) (ms.eraseIdx i).length (mcs (ms.eraseIdx i)) := by
    rw [hlen, show ms.length - 1 = k by omega] 
    refine ⟨by rw [mcs_len, hlen]; omega, .inr ⟨g, c, R2.toArray, rfl, Nat.zero_le _, hg3, by omega, hcm, by rw [List.size_toArray, hR2l], ?_⟩⟩
    rw [show (ms.length - 1) = k by omega] at hdr
    rw [← hdr, hR2, List.append_assoc]
    rw [List.take_append_of_le_length (by rw [List.length_take, hR1l]; omega), List.take_take, Nat.min_self]
  have hh3 : W3.heap[n]? = _ := f3.kept hA1.head (fun e => hgn e.symm)
  have hc3 := hn_cells hh3
  have hb3 := f3.kept b1 (fun e => by omega)
  have m1 := f3.kept ((f1.block w.heap.size (by omega) (by omega)).trans n1) (fun e => by omega)
  have hc2 := hn_cells (f2.kept hA1.head (fun e => hgn e.symm))
  obtain ⟨W4, hW4⟩ : ∃ W4, W4 = W3.setCell ⟨n, 1, none⟩ (.slice (some ⟨g, 0, none⟩) k c) := ⟨_, rfl⟩
  have f4 : Foot (fun k => k = n) W3 W4 := by rw [hW4]; exact Foot.set (fun k => k = n) W3 ⟨n, 1, none⟩ _ rfl
  have hh4 : W4.heap[n]? = some (HN (.slice (some ⟨g, 0, none⟩) k c)) := by
    rw [hW4, setCell_eq_setRow W3 n 1 _ _ _ _ hh3, setRow_heap W3 n _ _ _ _ hh3]; rfl
  have hT := hA1.cut (v' := .slice (some ⟨g, 0, none⟩) k c) hi' (f3.mono fun k _ e => by rw [e]; rfl) rfl hrow f4 hh4
  have hnl := hA.lt n hA.inn
  have b4 := f4.kept hb3 (fun e => by omega)
  have m4 := f4.kept m1 (fun e => by omega)
  obtain ⟨W5, hst5, b5, f5⟩ := store_mail ms[i].h A ms[i].es.length cv m4 rfl
  have hbW1 : Below w.heap.size w W1 := hb0.trans (f1.below fun k hk => ⟨by omega, by omega⟩)
  have hT5 := hT.box (b := w.heap.size) (by have := f1.size; omega) (fun hs => by have := hA.lt _ hs; omega) f5 hbW1 rfl hlt0
  rw [hm]
  rw [hv] at hT5
  have HT := Lib.hid hT5
  have HL := Lib.hid hld
  have HS0 := Lib.hid hsz0
  have HC := Lib.hid hcp
  have c2 := hc2.2.1
  have c3 := hc3.2.1
  have z3 := hc3.2.2 1
  have B4 := Lib.hid b4
  have B5 := Lib.hid b5
  unfold maxLen at hcm h2
  have hwr : IntKind.i64.wrap ((ms.length : Int) - 1) = (k : Int) := by rw [IntWalk.i64_in _ (by omega)]; omega
  have HWA := Lib.hid hWa.symm
  have HWB := Lib.hid hW.symm
  have HSA := Lib.hid hsa
  have HW4 := Lib.hid hW4.symm
  have HSP := Lib.hid hsp
  have hkk : k < ms.length := by omega
  have hkc : k ≤ c := by omega
  have hii : (i : Int) < (ms.length : Int) := by omega
  unfold Told
  dsimp only [MM.ml] at HT ⊢
  clear hWa hW hba hbab hb0 n1 n2 hsz hsa hA h0 ha h3 h4 h5 hm hv hld b1 f1 hA1 k0 kz hg hcs htk HONE hxl hdl hsp hcp hR1 hdr hR1l hlen hW2 hg2 hk hsz0 hR2 hW3 hg3 hgn hgl f2 f3 hl0 hR2l hrow hh3 hc3 hb3 m1 hc2 hW4 f4 hh4 hT hnl b4 m4 b5 f5 hbW1 hT5 hlt0
  generalize ms[i].h = hd at *
  generalize ms[i].es = es at *
  have hm18 : ∀ v, (mcells hd v).length = 18 := fun _ => rfl
  clear hi'
  generalize ms.length = L at *
  by_cases hcp1 : c = i + 1
  · rw [if_pos hcp1] at HSP
    have hsp := HSP.out
    subst hsp
    subst hcp1
    have g1 : (0 : Int) ≤ (i : Int) + 1 := by omega
    have g2 : IntKind.i64.wrap ((i : Int) + 1) = (i : Int) + 1 := IntWalk.i64_in _ (by omega)
    have g3 : (i : Int) + 1 ≤ (L : Int) := by omega
    have g4 : (i : Int) ≤ (L : Int) := by omega
    have g5 : ((i : Int) + 1).toNat = i + 1 := by omega
    have g6 : ¬ (i + 1 = i) := by omega
    clear HSP
    go_enter Try.func34, Try.ntmps34
    go_wp2_with (first | rw [HWA.out] | rw [HWB.out] | rw [HSA.out] | (refine wpList_load_run rfl 36 _ rfl ⟨g, i * 18, none⟩ rfl HL.out ?_))
    go_region_law (refine step_copy_known rfl _ _ 27 27 rfl (.slice (some ⟨g, i * 18, none⟩) (L - i) 1) (.slice (some ⟨g, 0, none⟩) (L - (i + 1)) 0) (by simp [Act.eval, Act.put]) (by simp [Act.eval, Act.put]; omega) (HC.out 1 0) ?_)
    all_goals
      clear g1 g2 g3 g4 g5 g6
      go_wp2_with (first | rw [HW4.out] | (refine wpList_store_run rfl 36 _ _ rfl ⟨g, k * 18, none⟩ _ rfl rfl HS0.out ?_) | (refine wpList_load_row rfl _ _ rfl (w.heap.size + 1) rfl _ _ _ _ B4.out Try.underlying36 rfl (by kernel_rfl) ?_))
      refine bodyPost_ret (results_row_tmp rfl _ _ _ _ _ _ _ rfl B5.out Try.underlying36 rfl (by kernel_rfl)) rfl ?_
      exact ⟨A, cv, rfl, HT⟩
  · rw [if_neg hcp1] at HSP
    have hsp := HSP.out
    subst hsp
    have g1 : (0 : Int) ≤ (i : Int) + 1 := by omega
    have g2 : IntKind.i64.wrap ((i : Int) + 1) = (i : Int) + 1 := IntWalk.i64_in _ (by omega)
    have g3 : (i : Int) + 1 ≤ (L : Int) := by omega
    have g4 : (i : Int) ≤ (L : Int) := by omega
    have g5 : ((i : Int) + 1).toNat = i + 1 := by omega
    have g6 : ¬ (c = i) := by omega
    clear HSP
    go_enter Try.func34, Try.ntmps34
    go_wp2_with (first | rw [HWA.out] | rw [HWB.out] | rw [HSA.out] | (refine wpList_load_run rfl 36 _ rfl ⟨g, i * 18, none⟩ rfl HL.out ?_))
    go_region_law (refine step_copy_known rfl _ _ 27 27 rfl (.slice (some ⟨g, i * 18, none⟩) (L - i) (c - i)) (.slice (some ⟨g, (i + 1) * 18, none⟩) (L - (i + 1)) (c - (i + 1))) (by simp [Act.eval, Act.put]) (by simp [Act.eval, Act.put]) (HC.out _ _) ?_)
    all_goals
      clear g1 g2 g3 g4 g5 g6
      go_wp2_with (first | rw [HW4.out] | (refine wpList_store_run rfl 36 _ _ rfl ⟨g, k * 18, none⟩ _ rfl rfl HS0.out ?_) | (refine wpList_load_row rfl _ _ rfl (w.heap.size + 1) rfl _ _ _ _ B4.out Try.underlying36 rfl (by kernel_rfl) ?_))
      refine bodyPost_ret (results_row_tmp rfl _ _ _ _ _ _ _ rfl B5.out Try.underlying36 rfl (by kernel_rfl)) rfl ?_
      exact ⟨A, cv, rfl, HT⟩
end
end Go.Proofs.Ytlejlmlgcehjiaa
