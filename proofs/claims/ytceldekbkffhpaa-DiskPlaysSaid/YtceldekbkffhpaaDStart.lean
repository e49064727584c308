/-
  Contracts of Start, Crash, Fail, New.
-/
import Derived.Test.YtceldekbkffhpaaDEach
import Derived.WalkSpells
namespace Go.Proofs.Ytceldekbkffhpaa
open Go.RowKit
section
variable {w w' : World} {d : Nat} {D : Dsk.Dk} {S T : Nat → Prop} {v : Value} {fs : List MF} {left : Int} {fv : Value}
/-- Only cells of the disk's own head are written. -/
theorem DiskAt.heads {D' : Dsk.Dk} {T' : Nat → Prop} {l' : Int} {f' : Value} (h : DiskAt w d D S T v fs left fv) (hf : Foot (fun k => k = d) w w') (hh : Head w' d D'.cap v D'.down D'.starts l' f') (hfs : D'.fs = D.fs) (hfl : FailIs w' d T' l' f' D'.fail) (hT : ∀ k, T' k → S k ∧ ¬ OfFiles d v fs k) (hg : Dsk.Good D') :
    DiskAt w' d D' S T' v fs l' f' :=
  ⟨hh, h.files.fewer (List.Sublist.refl _) (owns_foot h.files.row hf fun k hk e => h.files.offd (by rw [hk, e])) rfl hf fun k e => .inl e, by rw [h.fls, hfs], hfl, hT, h.inS, fun k hk => Nat.lt_of_lt_of_le (h.lt k hk) hf.size, hg⟩
theorem DiskAt.offd (h : DiskAt w d D S T v fs left fv) : ∀ k, T k → ¬ k = d := fun k hk e => (h.tOff k hk).2 (.inl e)
set_option maxRecDepth 100000 in
theorem start_any (h : IsDisk w d D S) (hs : D.starts ≤ 1000000) : Calls Try.prog 25 #[.pointer (some ⟨d, 0, none⟩)] w (AnyRet (Did w d S (Dsk.start D))) := by
  have hD := h
  obtain ⟨T, v, fs, left, fv, h⟩ := h
  obtain ⟨q0, q1, q2, q3, q4, q5, qz⟩ := h.head.cells
  have HN := Lib.hid (none_no d D.cap w q0 h.good.cap0)
  have z2 := qz 2
  have z3 := qz 3
  have HH := Lib.hid h
  clear h q0 q1 q4 q5 qz
  cases hdn : D.down
  · have HS : Hid (Dsk.start D = (D, 2)) := by unfold Hid Dsk.start; rw [hdn, if_neg (by simp)]
    rw [hdn] at q2
    go_enter Try.func25, Try.ntmps25
    go_wp2_with fail
    refine HN.out.mono ?_
    rintro e w' ⟨rfl, rfl⟩
    go_wp2_with fail
    go_ret
    exact ⟨2, rfl, by rw [HS.out]; exact Did.same hD 2 (Below.refl _ _)⟩
  · have HS : Hid (Dsk.start D = ({ D with down := false, starts := D.starts + 1 }, 0)) := by unfold Hid Dsk.start; rw [hdn, if_pos rfl]
    rw [hdn] at q2
    go_enter Try.func25, Try.ntmps25
    go_wp2_with fail
    refine HN.out.mono ?_
    rintro e w' ⟨rfl, rfl⟩
    go_wp2_with fail
    go_ret
    have hf : Foot (fun k => k = d) w ((w.setCell ⟨d, 2, none⟩ (.bool false)).setCell ⟨d, 3, none⟩ (.int .i64 ((D.starts : Int) + 1))) := (Foot.set (fun k => k = d) w _ _ rfl).trans (Foot.set (fun k => k = d) _ _ _ rfl) fun _ _ e => e
    have hh := (HH.out.head.set2 false).set3 (D.starts + 1)
    refine ⟨0, rfl, ?_⟩
    rw [HS.out]
    exact ⟨rfl, S, ⟨T, v, fs, left, fv, HH.out.heads (D' := { D with down := false, starts := D.starts + 1 }) hf hh rfl (HH.out.fail.foot hf HH.out.offd) HH.out.tOff (HH.out.good.same _ _ _)⟩, hf.mono fun k _ e => HH.out.inS k (.inl e), fun k hk => .inl hk⟩
set_option maxRecDepth 100000 in
theorem crash_any (kv : Value) (keep : List Int) (h : IsDisk w d D S) (hk : Ints w kv keep) (hko : ∀ k, 0 < keep.length → kv.ownBlock = some k → ¬ S k) : Calls Try.prog 24 #[.pointer (some ⟨d, 0, none⟩), kv] w (AnyRet (Did w d S (Dsk.crash D keep))) := by
  have hD := h
  obtain ⟨T, v, fs, left, fv, h⟩ := h
  have hfew := h.few
  have HR := Lib.hid (ready_any w h.head h.good.cap0)
  have HG := Lib.hid (goDown_any kv keep w h.head h.files (by omega) hk (fun k h0 e => ⟨fun e' => hko k h0 e (h.inS k (.inl e')), fun e' => hko k h0 e (h.inS k (.inr (.inl e')))⟩))
  have HH := Lib.hid h
  clear h hk hko
  cases hdn : D.down
  · have HS : Hid (Dsk.crash D keep = (Dsk.goDown D keep, 0)) := by unfold Hid Dsk.crash; rw [hdn, if_neg (by simp)]
    rw [hdn] at HR
    have e1 : readyR false = 0 := rfl
    rw [e1] at HR
    go_enter Try.func24, Try.ntmps24
    go_wp2_with fail
    refine HR.out.mono ?_
    rintro e w' ⟨rfl, rfl⟩
    go_wp2_with fail
    refine HG.out.mono ?_
    rintro e w1 ⟨rfl, c1, c2, c3⟩
    have C1 := Lib.hid c1
    have C2 := Lib.hid c2
    have C3 := Lib.hid c3
    clear c1 c2 c3
    go_wp2_with fail
    go_ret
    refine ⟨0, rfl, ?_⟩
    rw [HS.out]
    exact ⟨rfl, S, HH.out.downed C1.out C2.out C3.out.size, C3.out.mono fun k _ e => HH.out.inS k (e.elim .inl fun e => .inr (.inl e)), fun k hk => .inl hk⟩
  · have HS : Hid (Dsk.crash D keep = (D, 41)) := by unfold Hid Dsk.crash; rw [hdn, if_pos rfl]
    rw [hdn] at HR
    have e1 : readyR true = 41 := rfl
    rw [e1] at HR
    go_enter Try.func24, Try.ntmps24
    go_wp2_with fail
    refine HR.out.mono ?_
    rintro e w' ⟨rfl, rfl⟩
    go_wp2_with fail
    go_ret
    exact ⟨41, rfl, by rw [HS.out]; exact Did.same hD 41 (Below.refl _ _)⟩
/-! ### Fail -/
theorem Ints.own {base : Nat} {l : List Int} (h : w.ownsRow base 3 1 v l.length (l.map (Value.int .i64))) : Ints w v l := by
  have h' := h
  rcases h.2 with ⟨rfl, h0⟩ | ⟨g, cap, cur, rfl, hb, hg, hnc, hcm, hcs, ht⟩
  · exact ⟨none, 0, by rw [h0], by omega, Nat.zero_le _, fun _ => ⟨h0, rfl⟩, fun h => by omega⟩
  · refine ⟨_, cap, rfl, hnc, hcm, (fun e => by cases e), fun _ => ⟨g, 0, rfl, lt_of_block hg, fun j hj => ?_⟩⟩
    rw [Nat.zero_add, World.ownsRow.cellAt h' j (by omega)]
    simp [hj]
def ClonePost (l : List Int) (w : World) (e : Ending) (w' : World) : Prop := ∃ A n c, e = .returned (.slice A n c) ∧ Hid (Ints w' (.slice A n c) l) ∧ Below w.heap.size w w' ∧ Hid (∀ k, (Value.slice A n c).ownBlock = some k → w.heap.size ≤ k ∧ k < w'.heap.size)
set_option maxRecDepth 100000 in
set_option maxHeartbeats 1000000 in
theorem cloneInts_any (l : List Int) (h : Ints w v l) (hl : l.length ≤ 1000) : Calls Try.prog 55 #[v] w (ClonePost l w) := by
  obtain ⟨A, c, rfl, h1, h2, h3, h4⟩ := h
  have q22 : ∀ (w : World) (a : Option Addr) (n c n' c' : Nat), (binOp .eql 32 (.slice a n c) (.slice none n' c')).run Try.prog w = .ok (.bool a.isNone) w := fun w a n c n' c' => Lib.run_eql_slice_nil w _ _ a n c n' c' Try.underlying32
  rcases A with _ | ad
  · obtain ⟨h0, rfl⟩ := h3 rfl
    have hl0 : l = [] := List.eq_nil_of_length_eq_zero h0
    subst hl0
    go_enter Try.func55, Try.ntmps55
    go_wp2
    go_ret
    exact ⟨none, 0, 0, rfl, ⟨none, 0, rfl, Nat.le_refl _, Nat.zero_le _, fun _ => ⟨rfl, rfl⟩, fun h => by simp at h⟩, Below.refl _ _, fun k hk => by cases hk⟩
  · obtain ⟨i0, hi, hz0, hz1, hz2⟩ := info_parts Try.info_int
    have hO : (w.alloc (.cells #[] 3)).ownsRow 0 3 1 (.slice (some ⟨w.heap.size, 0, none⟩) 0 0) 0 [] := ⟨rfl, .inr ⟨w.heap.size, 0, #[], rfl, Nat.zero_le _, heap_alloc_new w _, Nat.le_refl _, Nat.zero_le _, rfl, rfl⟩⟩
    obtain ⟨v', w', hr, hg⟩ := run_append_grew (P := Try.prog) (w.alloc (.cells #[] 3)) 32 32 3 i0 _ 1 8 Try.underlying32 hi hz0 hz1 hz2 rfl (by decide) _ 0 [] hO ad l.length c (l.map (Value.int .i64)) (by simp) (fun j u hu => by
      rw [List.getElem?_map] at hu
      rcases hj : l[j]? with _ | x
      · rw [hj] at hu; cases hu
      · rw [hj] at hu
        simp only [Option.map_some, Option.some.injEq] at hu
        subst hu
        have hjl := (List.getElem?_eq_some_iff.1 hj).1
        obtain ⟨b, off, e, hb, hc⟩ := h4 (by omega)
        injection e with e
        subst e
        rw [Addr.add_lit]
        have := hc j hjl
        rw [List.getD, hj] at this
        exact (World.cell?_of_block (Below.heap_alloc w _ b hb)).trans this) (fun u hu => by obtain ⟨x, _, rfl⟩ := List.mem_map.1 hu; rfl) (by unfold maxLen; omega) (by omega)
    rw [Nat.zero_add, List.nil_append] at hg
    obtain ⟨A', n', c', rfl⟩ : ∃ A n' c, v' = .slice A n' c := by
      rcases hg.1.2 with ⟨rfl, _⟩ | ⟨g, cap, cur, rfl, _⟩ <;> exact ⟨_, _, _, rfl⟩
    have HG := Lib.hid hg
    have HR := Lib.hid hr
    clear hg hr h4 h3 hO hi hz0 hz1 hz2
    go_enter Try.func55, Try.ntmps55
    go_wp2_with (at_builtin; refine Lib.wpList_append_run _ rfl _ _ _ _ rfl _ _ rfl rfl _ _ HR.out ?_)
    go_ret
    have hb : Below w.heap.size w w' := ((Below.refl _ w).alloc (Nat.le_refl _) (.cells #[] 3)).trans (HG.out.2.1.below fun k hk => ⟨by simp; omega, fun e => by injection e with e; simp at e; omega⟩)
    refine ⟨A', n', c', rfl, Ints.own (base := 0) ?_, hb, fun k hk => ⟨?_, owns_lt HG.out.1 hk⟩⟩
    · exact HG.out.1
    · rcases HG.out.2.2 k hk with e | e
      · injection e with e; simp at e; omega
      · simp at e; omega
theorem Ints.take {A : Option Addr} {n c : Nat} {l : List Int} (h : Ints w (.slice A n c) l) (m : Nat) (hm : m ≤ l.length) : Ints w (.slice A m c) (l.take m) := by
  obtain ⟨A', c', hv, h1, h2, h3, h4⟩ := h
  injection hv with e1 e2 e3
  subst e1; subst e3
  have hl : (l.take m).length = m := by rw [List.length_take]; omega
  refine ⟨A, c, by rw [hl], by omega, h2, fun e => ⟨by rw [hl]; have := (h3 e).1; omega, (h3 e).2⟩, fun h0 => ?_⟩
  rw [hl] at h0
  obtain ⟨b, off, e, hb, hc⟩ := h4 (by omega)
  refine ⟨b, off, e, hb, fun j hj => ?_⟩
  rw [hl] at hj
  rw [hc j (by omega)]
  simp only [List.getD, List.getElem?_take]
  rw [if_pos hj]
theorem failSet_ok {n : Nat} {keep : List Int} (h : D.down = false) : Dsk.failSet D (n : Int) keep = ({ D with fail := some (n, keep.take 16) }, 0) := by
  unfold Dsk.failSet; rw [h, if_neg (by simp), if_neg (by omega)]; rfl
set_option maxRecDepth 100000 in
set_option maxHeartbeats 1000000 in
theorem fail_any (kv : Value) (keep : List Int) (n : Int) (hn : n ≤ 9223372036854775807) (h : IsDisk w d D S) (hk : Ints w kv keep) : Calls Try.prog 26 #[.pointer (some ⟨d, 0, none⟩), .int .i64 n, kv] w (AnyRet (Did w d S (Dsk.failSet D n keep))) := by
  have hD := h
  obtain ⟨T, v, fs, left, fv, h⟩ := h
  have hb0 : Below w.heap.size w (w.alloc (.cells #[.pointer (some ⟨d, 0, none⟩)] 24)) := (Below.refl _ _).alloc (Nat.le_refl _) _
  have hnew := new_cell w (.pointer (some ⟨d, 0, none⟩)) 24
  have hblk := heap_alloc_new w (.cells #[.pointer (some ⟨d, 0, none⟩)] 24)
  have HR := Lib.hid (ready_any _ (h.below hb0).head h.good.cap0)
  have HH := Lib.hid h
  have HB0 := Lib.hid hb0
  have HBK := Lib.hid hblk
  have HNEW := Lib.hid hnew
  clear h hb0 hblk
  cases hdn : D.down
  · rw [hdn] at HR
    have e1 : readyR false = 0 := rfl
    rw [e1] at HR
    by_cases hneg : n < 0
    · have HS : Hid (Dsk.failSet D n keep = (D, 2)) := by unfold Hid Dsk.failSet; rw [hdn, if_neg (by simp), if_pos hneg]
      have t1 : decide (n < 0) = true := decide_eq_true hneg
      go_enter Try.func26, Try.ntmps26
      go_wp2_with fail
      refine HR.out.mono ?_
      rintro e w' ⟨rfl, rfl⟩
      go_wp2_with fail
      go_ret
      exact ⟨2, rfl, by rw [HS.out]; exact Did.same hD 2 HB0.out⟩
    · obtain ⟨m, rfl⟩ := Int.eq_ofNat_of_zero_le (show 0 ≤ n by omega)
      have HS := Lib.hid (failSet_ok (D := D) (n := m) (keep := keep) hdn)
      have t1 : decide ((m : Int) < 0) = false := decide_eq_false hneg
      obtain ⟨A, c, rfl, k1, k2, k3, k4⟩ := hk
      have hki : Ints w (.slice A keep.length c) keep := ⟨A, c, rfl, k1, k2, k3, k4⟩
      obtain ⟨M, hM, hM1, hM2⟩ : ∃ M, min (keep.length : Int) 16 = ((M : Nat) : Int) ∧ M ≤ keep.length ∧ M = min 16 keep.length := ⟨min 16 keep.length, by omega, by omega, rfl⟩
      have htk : keep.take M = keep.take 16 := by
        rw [hM2]
        rcases Nat.le_total 16 keep.length with h | h
        · rw [Nat.min_eq_left h]
        · rw [Nat.min_eq_right h, List.take_length, List.take_of_length_le h]
      have hkt := (hki.take M hM1).foot (below_foot (S := fun _ => False) HB0.out) fun _ _ e => e
      have HCL := Lib.hid (cloneInts_any (keep.take M) hkt (by rw [List.length_take]; omega))
      have HTK := Lib.hid htk
      unfold maxLen at k2
      clear hM2 htk hkt hki k3 k4
      go_enter Try.func26, Try.ntmps26
      go_wp2_with fail
      refine HR.out.mono ?_
      rintro e w' ⟨rfl, rfl⟩
      go_wp2_with fail
      refine HCL.out.mono ?_
      rintro e w2 ⟨A', n', c', rfl, HI, hb2, HO⟩
      have hb02 := HB0.out.trans (hb2.mono (by simp))
      have h2 := HH.out.below hb02
      obtain ⟨q0, q1, q2, q3, q4, q5, qz⟩ := h2.head.cells
      have z4 := qz 4
      have z5 := qz 5
      have hc0 := (hb2.cell (p := ⟨w.heap.size, 0, none⟩) (by simp)).trans HNEW.out
      have hc1 : (w2.alloc (.cells #[.slice A' n' c'] 32)).cell? ⟨w.heap.size, 0, none⟩ = some (.pointer (some ⟨d, 0, none⟩)) := (World.cell?_of_block (Below.heap_alloc w2 _ w.heap.size (by have := hb2.size; simp at this; omega))).trans hc0
      have hd0 : d < w.heap.size := HH.out.head.lt
      have hc2 : ((w2.setCell ⟨d, 4, none⟩ (.int .i64 (m : Int))).alloc (.cells #[.slice A' n' c'] 32)).cell? ⟨w.heap.size, 0, none⟩ = some (.pointer (some ⟨d, 0, none⟩)) := (World.cell?_of_block ((Below.heap_alloc (w2.setCell ⟨d, 4, none⟩ (.int .i64 (m : Int))) _ w.heap.size (by have := hb2.size; simp [World.setCell] at this ⊢; omega)).trans (Below.heap_setCell w2 ⟨d, 4, none⟩ _ w.heap.size (by show w.heap.size ≠ d; omega)))).trans hc0
      have H2 := Lib.hid h2
      have HW := Lib.hid hb2
      have HW02 := Lib.hid hb02
      have hsz2 : w.heap.size + 1 ≤ w2.heap.size := by have := hb2.size; simpa using this
      have hdl : d < w2.heap.size := h2.head.lt
      clear h2 hb2 hb02 q0 q1 q2 q3 qz hnew
      go_wp2_with fail
      go_ret
      obtain ⟨B2, hB2⟩ : ∃ B2, B2 = w2.heap.size := ⟨_, rfl⟩
      obtain ⟨W2, hW2⟩ : ∃ W2, W2 = w2.alloc (.cells #[.slice A' n' c'] 32) := ⟨_, rfl⟩
      have hbn : Below w2.heap.size w2 W2 := by rw [hW2]; exact (Below.refl _ _).alloc (Nat.le_refl _) _
      have hx1 := H2.out.below hbn
      have hx2 := (hx1.head.set4 (m : Int)).set5 (.func (.func 56) #[] #[.pointer (some ⟨w.heap.size, 0, none⟩), .pointer (some ⟨B2, 0, none⟩)])
      have hfx : Foot (fun k => k = d) W2 ((W2.setCell ⟨d, 4, none⟩ (.int .i64 (m : Int))).setCell ⟨d, 5, none⟩ (.func (.func 56) #[] #[.pointer (some ⟨w.heap.size, 0, none⟩), .pointer (some ⟨B2, 0, none⟩)])) :=
        (Foot.set (fun k => k = d) W2 _ _ rfl).trans (Foot.set (fun k => k = d) _ _ _ rfl) fun _ _ e => e
      have hb0 : W2.heap[w.heap.size]? = some (.cells #[.pointer (some ⟨d, 0, none⟩)] 24 (0, 0)) := (hbn.block w.heap.size (by omega)).trans ((HW.out.block w.heap.size (by simp)).trans HBK.out)
      have hb2' : W2.heap[B2]? = some (.cells #[.slice A' n' c'] 32 (0, 0)) := by rw [hW2, hB2]; exact heap_alloc_new w2 _
      have hBd : ¬ B2 = d := by omega
      have hIW : Ints W2 (.slice A' n' c') (keep.take 16) := by
        rw [← HTK.out]; exact HI.out.foot (below_foot (S := fun _ => False) hbn) fun _ _ e => e
      have hfl : FailIs ((W2.setCell ⟨d, 4, none⟩ (.int .i64 (m : Int))).setCell ⟨d, 5, none⟩ (.func (.func 56) #[] #[.pointer (some ⟨w.heap.size, 0, none⟩), .pointer (some ⟨B2, 0, none⟩)])) d (fun k => k = w.heap.size ∨ k = B2 ∨ (Value.slice A' n' c').ownBlock = some k) (m : Int) (.func (.func 56) #[] #[.pointer (some ⟨w.heap.size, 0, none⟩), .pointer (some ⟨B2, 0, none⟩)]) (some (m, keep.take 16)) :=
        ⟨rfl, hn, w.heap.size, B2, .slice A' n' c', rfl, hfx.kept hb0 (by omega), hfx.kept hb2' hBd, hIW.foot hfx fun k hk e => by have := HO.out k hk; simp at this; omega, .inl rfl, .inr (.inl rfl), fun k hk => .inr (.inr hk)⟩
      have hnew : ∀ k, (k = w.heap.size ∨ k = B2 ∨ (Value.slice A' n' c').ownBlock = some k) → w.heap.size ≤ k := fun k hk => by
        rcases hk with e | e | e
        · omega
        · omega
        · have := HO.out k e; simp at this; omega
      refine ⟨0, rfl, ?_⟩
      rw [HS.out]
      have hmore : DiskAt W2 d D (fun k => S k ∨ (k = w.heap.size ∨ k = B2 ∨ (Value.slice A' n' c').ownBlock = some k)) T v fs left fv :=
        ⟨hx1.head, hx1.files, hx1.fls, hx1.fail, fun k hk => ⟨.inl (hx1.tOff k hk).1, (hx1.tOff k hk).2⟩, fun k hk => .inl (hx1.inS k hk), fun k hk => by
          have hs2 : w2.heap.size < W2.heap.size := by rw [hW2]; simp
          rcases hk with e | e | e | e
          · exact hx1.lt k e
          · omega
          · omega
          · have := (HO.out k e).2; omega, hx1.good⟩
      have hfin := hmore.heads (D' := { D with fail := some (m, keep.take 16) }) (T' := fun k => k = w.heap.size ∨ k = B2 ∨ (Value.slice A' n' c').ownBlock = some k) hfx hx2 rfl hfl (fun k hk => ⟨.inr hk, fun hof => by
        have h1 := HH.out.lt k (HH.out.inS k hof)
        have h2 := hnew k hk
        omega⟩) (HH.out.good.same _ _ _)
      have hsw : ∀ x, ((w2.alloc (.cells #[.slice A' n' c'] 32)).setCell ⟨d, 4, none⟩ (.int .i64 (m : Int))).setCell ⟨d, 5, none⟩ x = ((w2.setCell ⟨d, 4, none⟩ (.int .i64 (m : Int))).setCell ⟨d, 5, none⟩ x).alloc (.cells #[.slice A' n' c'] 32) := fun x => by
        rw [World.setCell_alloc_past _ d 4 _ hdl, World.setCell_alloc_past _ d 5 _ (by simpa [World.setCell] using hdl)]
      rw [hB2, hW2, hsw] at hfin
      refine ⟨rfl, _, ⟨_, v, fs, _, _, hfin⟩, ?_, fun k hk => ?_⟩
      · rw [hB2, hW2, hsw] at hfx
        have f1 : Foot S w (w2.alloc (.cells #[.slice A' n' c'] 32)) := (below_foot HW02.out).trans (Foot.new S w2 _) fun _ _ e => e
        exact f1.trans hfx fun k _ (e : k = d) => by rw [e]; exact HH.out.inS d (.inl rfl)
      · rcases hk with e | e
        · exact .inl e
        · right
          rw [← hB2] at e
          exact hnew k e
  · have HS : Hid (Dsk.failSet D n keep = (D, 41)) := by unfold Hid Dsk.failSet; rw [hdn, if_pos rfl]
    rw [hdn] at HR
    have e1 : readyR true = 41 := rfl
    rw [e1] at HR
    go_enter Try.func26, Try.ntmps26
    go_wp2_with fail
    refine HR.out.mono ?_
    rintro e w' ⟨rfl, rfl⟩
    go_wp2_with fail
    go_ret
    exact ⟨41, rfl, by rw [HS.out]; exact Did.same hD 41 HB0.out⟩
end
end Go.Proofs.Ytceldekbkffhpaa
