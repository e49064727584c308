/-
  The document's Take.
-/
import Derived.Test.YtlejlmlgcehjiaaNRef
namespace Go.Proofs.Ytlejlmlgcehjiaa
open Go.RowKit
section
variable {w w' : World} {r : Nat} {M : List Net.Ml} {T : Nat → Prop}
set_option maxRecDepth 100000 in
set_option maxHeartbeats 2000000 in
theorem rtake_any (i : Int) (h : IsNet HR w r M T) : Calls Try.prog 26 #[.pointer (some ⟨r, 0, none⟩), .int .i64 i] w (RDid w r T (Net.take M i)) := by
  obtain ⟨i0, hi0, hz0, hz1, hz2⟩ := info_parts Try.info_mail
  have hb0 := below_alloc1 w (.cells #[.int .i64 0, .int .i64 0, .int .i64 0, .int .i64 0, .int .i64 0, .int .i64 0, .int .i64 0, .int .i64 0, .int .i64 0, .slice none 0 0, .int .i64 0, .int .i64 0, .int .i64 0, .int .i64 0, .int .i64 0, .int .i64 0, .int .i64 0, .int .i64 0] 36)
  have n0 := heap_alloc_new w (.cells #[.int .i64 0, .int .i64 0, .int .i64 0, .int .i64 0, .int .i64 0, .int .i64 0, .int .i64 0, .int .i64 0, .int .i64 0, .slice none 0 0, .int .i64 0, .int .i64 0, .int .i64 0, .int .i64 0, .int .i64 0, .int .i64 0, .int .i64 0, .int .i64 0] 36)
  generalize hW : w.alloc (.cells #[.int .i64 0, .int .i64 0, .int .i64 0, .int .i64 0, .int .i64 0, .int .i64 0, .int .i64 0, .int .i64 0, .int .i64 0, .slice none 0 0, .int .i64 0, .int .i64 0, .int .i64 0, .int .i64 0, .int .i64 0, .int .i64 0, .int .i64 0, .int .i64 0] 36) = W at *
  have HW := Lib.hid hW
  have hwl := lt_of_block n0
  have HN := Lib.hid (h.below hb0)
  have HLK := Lib.hid (rlook_tell i HN.out)
  have HB0 := Lib.hid hb0
  have HN0 := Lib.hid n0
  by_cases hi : Net.In M i
  · obtain ⟨h0, h1⟩ := hi
    obtain ⟨k, rfl⟩ : ∃ k : Nat, i = (k : Int) := ⟨i.toNat, by omega⟩
    have hk : k < M.length := by omega
    obtain ⟨m, hm⟩ : ∃ m, M[k] = m := ⟨_, rfl⟩
    have hlk : Net.look M (k : Int) = (M, m, true) := by
      unfold Net.look
      rw [if_pos ⟨by omega, by omega⟩, Int.toNat_natCast, getD_at hk, hm]
    have hR : Net.take M (k : Int) = (M.eraseIdx k, m, true) := by
      unfold Net.take
      rw [if_pos ⟨by omega, by omega⟩, Int.toNat_natCast, getD_at hk, hm]
    rw [hlk] at HLK
    rw [hR]
    have h512 := h.few
    clear hlk hR hm n0 hb0 hW
    go_enter Try.func26, Try.ntmps26
    go_wp2_with (rw [HW.out])
    refine HLK.out.mono ?_
    rintro e w1 ⟨A1, c1, rfl, hb1, hE1, hT1⟩
    obtain ⟨w2, st2, k2, b2, l2⟩ := box_mail w1 m.h A1 m.es.length c1
    have hb02 : Below W.heap.size W w2 := hb1.out.trans (b2.mono hb1.out.size)
    obtain ⟨v, ms, hA⟩ := HN.out.below hb02
    have hk' : k < ms.length := by have := hA.len; omega
    obtain ⟨g, c, rfl, q1, q2, q3, _, _⟩ := hA.mails.at_ hk'
    have HA := Lib.hid hA
    have hcell := Lib.hid (fun (j : Nat) (hj : j < ms.length) => by
      obtain ⟨g', c', e, _, _, _, hc, _⟩ := hA.mails.at_ hj
      have e2 : g = g' := by
        injection e with e1 _ _
        exact congrArg Addr.block (Option.some.inj e1)
      subst e2
      exact (hc : ∀ t, t < 18 → w2.cell? ⟨g, j * 18 + t, none⟩ = ms[j].cells[t]?))
    have ST2 := Lib.hid st2
    have HK2 := Lib.hid k2
    have HB2 := Lib.hid hb02
    have HE2 : Hid (Ents w2 (.slice A1 m.es.length c1) m.es) := hE1.out.below b2
    have hk1 := (hr_cells hA.head).1
    have HL := Lib.hid hA.len
    have H5 : Hid (ms.length ≤ 512) := by have := h512; have := HL.out; unfold Hid; omega
    clear st2 k2 hb02 hA hE1 b2 h512
    go_wp2_with (refine wpList_store_run rfl 36 _ _ rfl ⟨w1.heap.size, 0, none⟩ _ rfl rfl ST2.out ?_)
    go_loopg [8, 9] ms.length (fun kx s8 s9 wr => ∃ (j L8 c8 : Nat) (A8 : Option Addr), j ≤ ms.length ∧ s9 = .int .i64 (j : Int) ∧ s8 = .slice A8 L8 c8 ∧ ms.length - j ≤ kx ∧ Hid (Below w2.heap.size w2 wr) ∧ Hid (((ms.take j).eraseIdx k).length = L8) ∧ Hid (wr.ownsRow w2.heap.size 36 18 (.slice A8 L8 c8) L8 (mcs ((ms.take j).eraseIdx k))))
    case atStart => exact ⟨0, 0, 0, none, Nat.zero_le _, rfl, rfl, by omega, Below.refl _ _, by simp [Hid], by simpa [Hid, mcs] using World.ownsRow_nil w2 w2.heap.size 36 18⟩
    case round =>
      obtain ⟨j, L8, c8, A8, hj, rfl, rfl, hjk, hB, hL8, hO⟩ := hrel
      have kr : wr.cell? ⟨r, 0, none⟩ = some (.slice (some ⟨g, 0, none⟩) ms.length c) := (hB.out.cell (p := ⟨r, 0, none⟩) (HA.out.lt r HA.out.inn)).trans hk1
      have zr := (hr_cells (HA.out.below hB.out).head).2 0
      by_cases hlt : j < ms.length
      · have hii : (j : Int) < (ms.length : Int) := by omega
        have hj5 : j < 512 := by have := H5.out; omega
        have hc := hcell.out j hlt
        have hld := Lib.hid (run_load_mail (W := wr) (g := g) (o := j * 18) (h := ms[j].h) (v := ms[j].v) fun t ht => (hB.out.cell (p := ⟨g, j * 18 + t, none⟩) (HA.out.lt g (HA.out.inS g (.inl rfl)))).trans (hc t ht))
        have hnx := Lib.hid (cut_next ms (i := k) hlt)
        have hon : (ms[j].v).oneCell' = true := by
          obtain ⟨A, c, e⟩ := mm_slice (HA.out.mails.own _ (List.getElem_mem hlt))
          rw [e]; rfl
        by_cases hjk2 : j = k
        · have hne : ((j : Int) == (k : Int)) = true := beq_iff_eq.2 (by omega)
          have hL8' : Hid (((ms.take (j + 1)).eraseIdx k).length = L8) := by rw [hnx.out, if_pos hjk2, List.append_nil]; exact hL8
          have hO' : Hid (wr.ownsRow w2.heap.size 36 18 (.slice A8 L8 c8) L8 (mcs ((ms.take (j + 1)).eraseIdx k))) := by rw [hnx.out, if_pos hjk2, List.append_nil]; exact hO
          clear hc hld hnx hO hL8
          go_wp2_with fail
          go_roundg (ms.length - (j + 1))
          case measure => omega
          case rel => exact ⟨j + 1, L8, c8, A8, by omega, by go_num, rfl, by omega, hB, hL8', hO'⟩
        · have hne : ((j : Int) == (k : Int)) = false := beq_eq_false_iff_ne.2 (by omega)
          have hl8 : L8 ≤ 512 := by
            have := hL8.out
            have h2 := (List.eraseIdx_sublist (ms.take j) k).length_le
            rw [List.length_take] at h2
            have := H5.out
            omega
          obtain ⟨v', w4, hr, ho, hg, _⟩ := run_append_own (P := Try.prog) (wr.alloc (.cells (mcells ms[j].h ms[j].v).toArray 36)) w2.heap.size 27 27 36 i0 _ 18 160 Try.underlying27 hi0 hz0 hz1 hz2 rfl (by decide) (.slice A8 L8 c8) L8 _ (World.ownsRow.alloc hO.out _) ⟨wr.heap.size, 0, none⟩ 1 1 (mcells ms[j].h ms[j].v) rfl
            (fun t u hu => by rw [Addr.add_lit, Nat.zero_add, mail_cells (heap_alloc_new wr _)]; exact hu) (mcells_one _ hon) (by unfold maxLen; omega) (by omega) (Nat.le_trans hB.out.size (by simp))
          obtain ⟨A9, c9, rfl, _⟩ := own_is_slice ho
          have hB4 : Hid (Below w2.heap.size w2 w4) := (hB.out.alloc hB.out.size _).grown hg (Nat.le_trans hB.out.size (by simp)) fun t ht => (World.ownsRow.lt hO.out t ht).1
          have hL8' : Hid (((ms.take (j + 1)).eraseIdx k).length = L8 + 1) := by rw [hnx.out, if_neg hjk2]; unfold Hid; rw [List.length_append, hL8.out]; rfl
          have hO' : Hid (w4.ownsRow w2.heap.size 36 18 (.slice A9 (L8 + 1) c9) (L8 + 1) (mcs ((ms.take (j + 1)).eraseIdx k))) := by
            rw [hnx.out, if_neg hjk2, mcs_append]
            have e : mcs [ms[j]] = mcells ms[j].h ms[j].v := by simp [mcs, MM.cells]
            rw [e]
            exact ho
          have HRN := Lib.hid hr
          have HSL := Lib.hid (slice_mail wr ms[j].h ms[j].v)
          clear hc hnx hr ho hg hO hL8 hon
          generalize ms[j].h = hd at *
          generalize ms[j].v = mv at *
          go_wp2_with (first | (refine wpList_load_run rfl 36 _ rfl ⟨g, j * 18, none⟩ rfl hld.out ?_) | (refine wpList_buildSlice_known rfl 27 1 _ rfl #[(0, .agg (mcells hd mv).toArray)] (by simp [Act.eval, Act.put]) HSL.out ?_) | (at_builtin; refine wpList_append_known _ rfl _ _ _ _ rfl _ _ rfl rfl HRN.out ?_))
          go_roundg (ms.length - (j + 1))
          case measure => omega
          case rel => exact ⟨j + 1, L8 + 1, c9, A9, by omega, by go_num, rfl, by omega, hB4, hL8', hO'⟩
      · obtain rfl : j = ms.length := by omega
        have hii : ¬ ((ms.length : Int) < (ms.length : Int)) := by omega
        rw [List.take_length] at hL8 hO
        obtain ⟨w5, hw5⟩ : ∃ w5, w5 = wr.setCell ⟨r, 0, none⟩ (.slice A8 L8 c8) := ⟨_, rfl⟩
        have hAr := HA.out.below hB.out
        have hh5 : w5.heap[r]? = some (HR (.slice A8 L8 c8)) := by rw [hw5, setCell_eq_setRow wr r 0 _ _ _ _ hAr.head, setRow_heap wr r _ _ _ _ hAr.head]; rfl
        have f5 : Foot (fun t => t = r) wr w5 := by rw [hw5]; exact Foot.set (fun t => t = r) wr ⟨r, 0, none⟩ _ rfl
        have hM' : (ms.eraseIdx k).map MM.ml = M.eraseIdx k := by
          rw [← HA.out.ml, List.eraseIdx_eq_take_drop_succ, List.eraseIdx_eq_take_drop_succ, List.map_append, List.map_take, List.map_drop]
        obtain ⟨hN5, hF5⟩ := HA.out.anew hB.out (List.eraseIdx_sublist ms k) (by rw [hL8.out]; exact hO.out) hM' f5 hh5
        have hrl : r < w.heap.size := h.lt h.inn
        have K5 := f5.kept ((hB.out.block _ l2).trans HK2.out) (fun e => by have := hb1.out.size; omega)
        have hwk : w2.heap[w.heap.size]? = _ := (HB2.out.block w.heap.size hwl).trans HN0.out
        have hw5' := f5.kept ((hB.out.block w.heap.size (lt_of_block hwk)).trans hwk) (fun e => by omega)
        have hB5 : Foot (fun t => t = r) w w5 := (below_foot (HB0.out.trans ((HB2.out.trans (hB.out.mono HB2.out.size)).mono HB0.out.size)) : Foot (fun t => t = r) w wr).trans f5 fun _ _ e => e
        have hst := run_storeVar_row (P := Try.prog) w5 w.heap.size 36 36 _ (mcells m.h (.slice A1 m.es.length c1)).toArray hw5' (by kernel_rfl) rfl (by simp [mcells, Value.oneCell'])
        have f6 := Foot.row (fun t => t = w.heap.size) w5 w.heap.size (mcells m.h (.slice A1 m.es.length c1)).toArray rfl
        have k6 := setRow_heap w5 w.heap.size _ (mcells m.h (.slice A1 m.es.length c1)).toArray _ _ hw5'
        generalize hw6 : w5.setRow w.heap.size (mcells m.h (.slice A1 m.es.length c1)).toArray = w6 at *
        have hTw : ∀ t, T t → t < w.heap.size := fun t ht => h.lt ht
        have hO2 := fun t ht => (World.ownsRow.lt hO.out t ht).1
        have hsz := HB2.out.size
        have HN6 : Hid (IsNet HR w6 r (M.eraseIdx k) fun t => T t ∨ (Value.slice A8 L8 c8).ownBlock = some t) := hN5.foot f6 fun t ht e => by
          rcases ht with ht | ht
          · have := hTw t ht; omega
          · have := hO2 t ht; omega
        have HF6 : Hid (Foot T w w6) := ⟨f6.os.trans hB5.os, f6.tape.trans hB5.tape, f6.output.trans hB5.output, Nat.le_trans hB5.size f6.size, fun t ht hn => (f6.block t (Nat.lt_of_lt_of_le ht hB5.size) (by omega)).trans (hB5.block t ht (fun e => hn (by rw [e]; exact h.inn)))⟩
        have HT6 : Hid (∀ t, (T t ∨ (Value.slice A8 L8 c8).ownBlock = some t) → T t ∨ w.heap.size ≤ t) := fun t ht => ht.imp id fun e => by have := hO2 t e; omega
        have hE5 : Ents w5 (.slice A1 m.es.length c1) m.es := (HE2.out.below hB.out).foot f5 fun t h0 ht e => (hT1.out t h0 ht).2 e
        have HE6 : Hid (Ents w6 (.slice A1 m.es.length c1) m.es) := hE5.foot f6 fun t h0 ht e => by have := hTw t (hT1.out t h0 ht).1; omega
        have HS := Lib.hid hst
        have HL5 := Lib.hid (load_box K5)
        have HW5 := Lib.hid hw5.symm
        have HT1 := Lib.hid (fun (t : Nat) (h0 : 0 < m.es.length) ht => (Or.inl (hT1.out t h0 ht).1 : T t ∨ (Value.slice A8 L8 c8).ownBlock = some t))
        clear hst f6 hw6 hN5 hF5 K5 hwk hw5' hB5 hE5 hw5 hAr hh5 f5 hM' hO hL8 hO2
        go_wp2_with (first | rw [HW5.out] | (refine wpList_load_run rfl 36 _ rfl ⟨w1.heap.size, 0, none⟩ rfl HL5.out ?_) | (refine wpList_store_run rfl 36 _ _ rfl ⟨w.heap.size, 0, none⟩ _ rfl rfl HS.out ?_))
        refine bodyPost_ret (results_row_tmp rfl _ _ _ _ _ _ _ rfl k6 Try.underlying36 rfl (by kernel_rfl)) rfl ?_
        exact ⟨A1, c1, fun t => T t ∨ (Value.slice A8 L8 c8).ownBlock = some t, rfl, HN6, HF6, HT6, HE6, HT1⟩
  · have hlk : Net.look M i = (M, Net.ml0, false) := if_neg hi
    have hR : Net.take M i = (M, Net.ml0, false) := if_neg hi
    rw [hlk] at HLK
    rw [hR]
    have HI := Lib.hid h
    clear hlk hR n0 hb0 hW h hi
    go_enter Try.func26, Try.ntmps26
    go_wp2_with (rw [HW.out])
    refine HLK.out.mono ?_
    rintro e w1 ⟨A1, c1, rfl, hb1, hE1, hT1⟩
    obtain ⟨w2, st2, k2, b2, l2⟩ := box_mail w1 Net.hd0 A1 0 c1
    have hb02 : Below W.heap.size W w2 := hb1.out.trans (b2.mono hb1.out.size)
    have hwk := (hb02.block w.heap.size hwl).trans HN0.out
    obtain ⟨w3, st3, k3, b3, f3⟩ := box_to (w := w) Net.hd0 A1 0 c1 hwk rfl (HB0.out.trans (hb02.mono HB0.out.size)) (Nat.le_refl _)
    have ST2 := Lib.hid st2
    have ST3 := Lib.hid st3
    have HL2 := Lib.hid (load_box k2)
    have HB3 := Lib.hid b3
    have HE3 : Hid (Ents w3 (.slice A1 0 c1) []) := hE1.out.none_
    clear st2 st3 k2 b2 b3 f3 hwk hb02
    go_wp2_with (first | (refine wpList_store_run rfl 36 _ _ rfl ⟨w1.heap.size, 0, none⟩ _ rfl rfl ST2.out ?_) | (refine wpList_load_run rfl 36 _ rfl ⟨w1.heap.size, 0, none⟩ rfl HL2.out ?_) | (refine wpList_store_run rfl 36 _ _ rfl ⟨w.heap.size, 0, none⟩ _ rfl rfl ST3.out ?_))
    refine bodyPost_ret (results_row_tmp rfl _ _ _ _ _ _ _ rfl k3 Try.underlying36 rfl (by kernel_rfl)) rfl ?_
    exact ⟨A1, c1, T, rfl, Lib.hid (HI.out.below HB3.out), below_foot HB3.out, fun _ e => .inl e, HE3, fun k h0 => by cases h0⟩
end
end Go.Proofs.Ytlejlmlgcehjiaa
