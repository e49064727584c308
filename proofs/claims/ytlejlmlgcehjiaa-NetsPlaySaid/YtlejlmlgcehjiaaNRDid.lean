/-
  The document's Copy, Drop; did: an act done with the document's net.
-/
import Derived.Test.YtlejlmlgcehjiaaNRTake
import Derived.Test.YtlejlmlgcehjiaaNDoes
namespace Go.Proofs.Ytlejlmlgcehjiaa
open Go.RowKit
section
variable {w w' : World} {r : Nat} {M : List Net.Ml} {T : Nat → Prop}
def RFlag (w : World) (r : Nat) (T : Nat → Prop) (M' : List Net.Ml) (ok : Bool) (e : Ending) (w' : World) : Prop := e = .returned (.bool ok) ∧ Hid (Chg HR w r T M' w')
set_option maxRecDepth 100000 in
set_option maxHeartbeats 1000000 in
theorem rcopy_any (i : Int) (h : IsNet HR w r M T) : Calls Try.prog 27 #[.pointer (some ⟨r, 0, none⟩), .int .i64 i] w (RFlag w r T (Net.copy M i).1 (Net.copy M i).2) := by
  have HLK := Lib.hid (rlook_tell i h)
  by_cases hi : Net.In M i
  · have hlt : i.toNat < M.length := by have := hi.1; have := hi.2; omega
    have hlk : Net.look M i = (M, M[i.toNat], true) := by
      unfold Net.look
      rw [if_pos hi, getD_at hlt]
    have hR : Net.copy M i = Net.send M M[i.toNat] := by
      unfold Net.copy
      rw [if_pos hi, getD_at hlt]
    have hsm := h.small hlt
    rw [hlk] at HLK
    rw [hR]
    have HI := Lib.hid h
    dsimp only at HLK
    generalize M[i.toNat] = m at *
    obtain ⟨hd, es⟩ := m
    dsimp only at HLK hsm
    clear hlk hR hi hlt h
    go_enter Try.func27, Try.ntmps27
    go_wp2_with fail
    refine HLK.out.mono ?_
    rintro e w1 ⟨A1, c1, rfl, hb1, hE1, _⟩
    obtain ⟨w2, st2, k2, b2, l2⟩ := box_mail w1 hd A1 es.length c1
    have hb02 : Below w.heap.size w w2 := hb1.out.trans (b2.mono hb1.out.size)
    have HSD := Lib.hid (rsend_any hd (HI.out.below hb02) (hE1.out.below b2) hsm)
    have HB2 := Lib.hid hb02
    have ST2 := Lib.hid st2
    have HL2 := Lib.hid (load_box k2)
    clear st2 k2 b2 l2 hb02
    go_wp2_with (first | (refine wpList_store_run rfl 36 _ _ rfl ⟨w1.heap.size, 0, none⟩ _ rfl rfl ST2.out ?_) | (refine wpList_load_want (by kernel_rfl) 36 _ rfl ⟨w1.heap.size, 0, none⟩ rfl HL2.out ?_))
    refine HSD.out.mono ?_
    rintro e w3 ⟨rfl, hc⟩
    go_wp2_with fail
    go_ret
    exact ⟨rfl, Lib.hid (Chg.from_ HB2.out hc.out)⟩
  · have hlk : Net.look M i = (M, Net.ml0, false) := if_neg hi
    have hR : Net.copy M i = (M, false) := if_neg hi
    rw [hlk] at HLK
    rw [hR]
    have HI := Lib.hid h
    clear hlk hR hi h
    go_enter Try.func27, Try.ntmps27
    go_wp2_with fail
    refine HLK.out.mono ?_
    rintro e w1 ⟨A1, c1, rfl, hb1, _, _⟩
    obtain ⟨w2, st2, k2, b2, l2⟩ := box_mail w1 Net.hd0 A1 0 c1
    have HB2 : Hid (Below w.heap.size w w2) := hb1.out.trans (b2.mono hb1.out.size)
    have ST2 := Lib.hid st2
    clear st2 k2 b2 l2
    go_wp2_with (refine wpList_store_run rfl 36 _ _ rfl ⟨w1.heap.size, 0, none⟩ _ rfl rfl ST2.out ?_)
    go_ret
    exact ⟨rfl, Lib.hid (Chg.same HI.out HB2.out)⟩
set_option maxRecDepth 100000 in
set_option maxHeartbeats 1000000 in
theorem rdrop_any (i : Int) (h : IsNet HR w r M T) : Calls Try.prog 28 #[.pointer (some ⟨r, 0, none⟩), .int .i64 i] w (RFlag w r T (Net.take M i).1 (Net.take M i).2.2) := by
  have HTK := Lib.hid (rtake_any i h)
  generalize Net.take M i = R at *
  obtain ⟨M', ⟨hd, es⟩, ok⟩ := R
  clear h
  dsimp only at HTK ⊢
  go_enter Try.func28, Try.ntmps28
  go_wp2_with fail
  refine HTK.out.mono ?_
  rintro e w1 ⟨A1, c1, T', rfl, g1, g2, g3, _, _⟩
  obtain ⟨w2, st2, k2, b2, l2⟩ := box_mail w1 hd A1 es.length c1
  have ST2 := Lib.hid st2
  have HB2 := Lib.hid b2
  clear st2 k2 b2 l2
  dsimp only
  go_wp2_with (refine wpList_store_run rfl 36 _ _ rfl ⟨w1.heap.size, 0, none⟩ (.agg (mcells hd (.slice A1 es.length c1)).toArray) rfl rfl ST2.out ?_)
  go_ret
  exact ⟨rfl, Lib.hid (Chg.then_ ⟨T', g1.out, g2.out, g3.out⟩ HB2.out)⟩
/-- What is told, laid into a box of one's own. -/
theorem rdid_box {W W1 : World} {b : Nat} {cs : Array Value} {t : TypeId} (hB : Below w.heap.size w W) (hlt : ∀ k, T k → k < w.heap.size) (hb : W.heap[b]? = some (.cells cs t (0, 0))) (hs : cs.size = 18) (hbw : w.heap.size ≤ b) (R : List Net.Ml × Net.Ml × Bool) (A : Option Addr) (c : Nat) (T' : Nat → Prop)
    (g1 : IsNet HR W1 r R.1 T') (g2 : Foot T W W1) (g3 : ∀ k, T' k → T k ∨ W.heap.size ≤ k) (g4 : Ents W1 (.slice A R.2.1.es.length c) R.2.1.es) (g5 : ∀ k, 0 < R.2.1.es.length → (Value.slice A R.2.1.es.length c).ownBlock = some k → T' k) :
    ∃ W2, (storeVar 36 ⟨b, 0, none⟩ (.agg (mcells R.2.1.h (.slice A R.2.1.es.length c)).toArray)).run Try.prog W1 = .ok () W2 ∧ W2.heap[b]? = some (.cells (mcells R.2.1.h (.slice A R.2.1.es.length c)).toArray t (0, 0)) ∧ RDid w r T R (.returned (.tuple #[.agg (mcells R.2.1.h (.slice A R.2.1.es.length c)).toArray, .bool R.2.2])) W2 := by
  have hbl := lt_of_block hb
  have hnT : ¬ T b := fun e => by have := hlt b e; omega
  have h1 := g2.kept hb hnT
  have h2 := run_storeVar_row (P := Try.prog) W1 b t 36 cs (mcells R.2.1.h (.slice A R.2.1.es.length c)).toArray h1 (by kernel_rfl) hs (by simp [mcells, Value.oneCell'])
  have hf := Foot.row (fun k => k = b) W1 b (mcells R.2.1.h (.slice A R.2.1.es.length c)).toArray rfl
  have hne : ∀ k, T' k → ¬ k = b := fun k hk e => by
    subst e
    rcases g3 k hk with e | e
    · exact hnT e
    · omega
  have f1 : Foot T w W1 := (below_foot hB : Foot T w W).trans g2 fun _ _ e => e
  refine ⟨_, h2, setRow_heap _ _ _ _ _ _ h1, A, c, T', rfl, g1.foot hf hne, ⟨hf.os.trans f1.os, hf.tape.trans f1.tape, hf.output.trans f1.output, Nat.le_trans f1.size hf.size, fun k hk hn => (hf.block k (Nat.lt_of_lt_of_le hk f1.size) (by omega)).trans (f1.block k hk hn)⟩, fun k hk => (g3 k hk).imp id fun e => Nat.le_trans hB.size e, g4.foot hf fun k h0 hk => hne k (g5 k h0 hk), g5⟩
set_option maxRecDepth 100000 in
set_option maxHeartbeats 2000000 in
theorem did_any (x : AV) (hk0 : 0 ≤ x.k) (h : IsNet HR w r M T) (hE : Ents w x.v x.es) (hl : x.es.length ≤ 4000) : Calls Try.prog 12 #[.pointer (some ⟨r, 0, none⟩), .agg (acells x).toArray] w (RDid w r T (Net.act M x.k x.ml x.i)) := by
  obtain ⟨w1, hw1⟩ : ∃ w1, w1 = w.alloc (.cells (acells x).toArray 38) := ⟨_, rfl⟩
  obtain ⟨W, hW⟩ : ∃ W, W = w1.alloc (.cells #[.int .i64 0, .int .i64 0, .int .i64 0, .int .i64 0, .int .i64 0, .int .i64 0, .int .i64 0, .int .i64 0, .int .i64 0, .slice none 0 0, .int .i64 0, .int .i64 0, .int .i64 0, .int .i64 0, .int .i64 0, .int .i64 0, .int .i64 0, .int .i64 0] 36) := ⟨_, rfl⟩
  have hb1 : Below w.heap.size w w1 := by rw [hw1]; exact below_alloc1 w _
  have hs1 : w1.heap.size = w.heap.size + 1 := by rw [hw1]; simp
  have hb2 : Below w1.heap.size w1 W := by rw [hW]; exact below_alloc1 w1 _
  have n3 : W.heap[w.heap.size]? = some (.cells (acells x).toArray 38 (0, 0)) := by rw [hb2.block _ (by omega), hw1]; exact heap_alloc_new w _
  have n4 : W.heap[w1.heap.size]? = some (.cells #[.int .i64 0, .int .i64 0, .int .i64 0, .int .i64 0, .int .i64 0, .int .i64 0, .int .i64 0, .int .i64 0, .int .i64 0, .slice none 0 0, .int .i64 0, .int .i64 0, .int .i64 0, .int .i64 0, .int .i64 0, .int .i64 0, .int .i64 0, .int .i64 0] 36 (0, 0)) := by rw [hW]; exact heap_alloc_new w1 _
  have hb0 := hb1.trans (hb2.mono hb1.size)
  have HI := Lib.hid (h.below hb0)
  have HE := Lib.hid (hE.below hb0)
  have hlt : ∀ k, T k → k < w.heap.size := fun k hk => h.lt hk
  have HBX := Lib.hid (fun R W1 A c T' => rdid_box (r := r) (W1 := W1) hb0 hlt n4 rfl hb1.size R A c T')
  have HLD := Lib.hid (act_mail n3)
  have HW1 := Lib.hid hw1.symm
  have HW := Lib.hid hW.symm
  have hc0 := act_cells n3 0
  have hc19 := act_cells n3 19
  clear h hE hlt hw1 hW hb1 hs1 hb2 n3 n4 hb0
  obtain ⟨xk, hd, ea, ec, es, i⟩ := x
  unfold AV.ml AV.v at *
  dsimp only at hk0 hl HLD HE ⊢
  have hc0 : W.cell? ⟨w.heap.size, 0, none⟩ = some (.int .u8 xk) := hc0.trans rfl
  have hc19 : W.cell? ⟨w.heap.size, 19, none⟩ = some (.int .i64 i) := hc19.trans rfl
  generalize hA : acells ⟨xk, hd, ea, ec, es, i⟩ = ac at *
  clear hA
  obtain ⟨RA, HRA⟩ : ∃ R, Hid (Net.act M xk ⟨hd, es⟩ i = R) := ⟨_, rfl⟩
  rw [HRA.out]
  have HLK := Lib.hid (rlook_any i HI.out)
  have HTK := Lib.hid (rtake_any i HI.out)
  have hm : xk % 9 = 0 ∨ xk % 9 = 1 ∨ xk % 9 = 2 ∨ xk % 9 = 3 ∨ xk % 9 = 4 ∨ xk % 9 = 5 ∨ xk % 9 = 6 ∨ xk % 9 = 7 ∨ xk % 9 = 8 := by omega
  rcases hm with e | e | e | e | e | e | e | e | e
  · have HEK := Lib.hid e
    rw [← Int.tmod_eq_emod_of_nonneg hk0] at e
    go_enter Try.func12, Try.ntmps12
    go_wp2_with (first | rw [HW1.out] | rw [HW.out] | (refine wpList_load_run rfl 36 _ rfl ⟨w.heap.size, 1, none⟩ rfl HLD.out ?_))
    clear e
    have HA : Hid (RA = ((Net.send M ⟨hd, es⟩).1, Net.ml0, (Net.send M ⟨hd, es⟩).2)) := (by rw [← HRA.out]; unfold Hid Net.act; simp [HEK.out])
    refine (rsend_any hd HI.out HE.out (by omega)).mono ?_
    rintro e W1 ⟨rfl, hc⟩
    obtain ⟨T', g1, g2, g3⟩ := hc.out
    obtain ⟨W2, hst, k2, hD⟩ := HBX.out (_, Net.ml0, _) W1 none 0 T' g1 g2 g3 (EOwn.nil W1 0).ents (fun k h0 => by cases h0)
    have HST := Lib.hid hst
    clear hst
    go_wp2_with (refine wpList_store_run rfl 36 _ _ rfl ⟨w1.heap.size, 0, none⟩ (.agg (mcells Net.hd0 (.slice none 0 0)).toArray) rfl rfl HST.out ?_)
    refine bodyPost_ret (results_row_tmp rfl _ _ _ _ _ _ _ rfl k2 Try.underlying36 rfl (by kernel_rfl)) rfl ?_
    rw [HA.out]
    exact hD
  · have HEK := Lib.hid e
    rw [← Int.tmod_eq_emod_of_nonneg hk0] at e
    go_enter Try.func12, Try.ntmps12
    go_wp2_with (first | rw [HW1.out] | rw [HW.out] | (refine wpList_load_run rfl 36 _ rfl ⟨w.heap.size, 1, none⟩ rfl HLD.out ?_))
    clear e
    have HA : Hid (RA = ((Net.send M ⟨hd, es⟩).1, Net.ml0, (Net.send M ⟨hd, es⟩).2)) := (by rw [← HRA.out]; unfold Hid Net.act; simp [HEK.out])
    refine (rsend_any hd HI.out HE.out (by omega)).mono ?_
    rintro e W1 ⟨rfl, hc⟩
    obtain ⟨T', g1, g2, g3⟩ := hc.out
    obtain ⟨W2, hst, k2, hD⟩ := HBX.out (_, Net.ml0, _) W1 none 0 T' g1 g2 g3 (EOwn.nil W1 0).ents (fun k h0 => by cases h0)
    have HST := Lib.hid hst
    clear hst
    go_wp2_with (refine wpList_store_run rfl 36 _ _ rfl ⟨w1.heap.size, 0, none⟩ (.agg (mcells Net.hd0 (.slice none 0 0)).toArray) rfl rfl HST.out ?_)
    refine bodyPost_ret (results_row_tmp rfl _ _ _ _ _ _ _ rfl k2 Try.underlying36 rfl (by kernel_rfl)) rfl ?_
    rw [HA.out]
    exact hD
  · have HEK := Lib.hid e
    rw [← Int.tmod_eq_emod_of_nonneg hk0] at e
    go_enter Try.func12, Try.ntmps12
    go_wp2_with (first | rw [HW1.out] | rw [HW.out] | (refine wpList_load_run rfl 36 _ rfl ⟨w.heap.size, 1, none⟩ rfl HLD.out ?_))
    clear e
    have HA : Hid (RA = ((Net.send M ⟨hd, es⟩).1, Net.ml0, (Net.send M ⟨hd, es⟩).2)) := (by rw [← HRA.out]; unfold Hid Net.act; simp [HEK.out])
    refine (rsend_any hd HI.out HE.out (by omega)).mono ?_
    rintro e W1 ⟨rfl, hc⟩
    obtain ⟨T', g1, g2, g3⟩ := hc.out
    obtain ⟨W2, hst, k2, hD⟩ := HBX.out (_, Net.ml0, _) W1 none 0 T' g1 g2 g3 (EOwn.nil W1 0).ents (fun k h0 => by cases h0)
    have HST := Lib.hid hst
    clear hst
    go_wp2_with (refine wpList_store_run rfl 36 _ _ rfl ⟨w1.heap.size, 0, none⟩ (.agg (mcells Net.hd0 (.slice none 0 0)).toArray) rfl rfl HST.out ?_)
    refine bodyPost_ret (results_row_tmp rfl _ _ _ _ _ _ _ rfl k2 Try.underlying36 rfl (by kernel_rfl)) rfl ?_
    rw [HA.out]
    exact hD
  · have HEK := Lib.hid e
    rw [← Int.tmod_eq_emod_of_nonneg hk0] at e
    go_enter Try.func12, Try.ntmps12
    go_wp2_with (first | rw [HW1.out] | rw [HW.out] | (refine wpList_load_run rfl 36 _ rfl ⟨w.heap.size, 1, none⟩ rfl HLD.out ?_))
    clear e
    have HA : Hid (RA = ((Net.send M ⟨hd, es⟩).1, Net.ml0, (Net.send M ⟨hd, es⟩).2)) := (by rw [← HRA.out]; unfold Hid Net.act; simp [HEK.out])
    refine (rsend_any hd HI.out HE.out (by omega)).mono ?_
    rintro e W1 ⟨rfl, hc⟩
    obtain ⟨T', g1, g2, g3⟩ := hc.out
    obtain ⟨W2, hst, k2, hD⟩ := HBX.out (_, Net.ml0, _) W1 none 0 T' g1 g2 g3 (EOwn.nil W1 0).ents (fun k h0 => by cases h0)
    have HST := Lib.hid hst
    clear hst
    go_wp2_with (refine wpList_store_run rfl 36 _ _ rfl ⟨w1.heap.size, 0, none⟩ (.agg (mcells Net.hd0 (.slice none 0 0)).toArray) rfl rfl HST.out ?_)
    refine bodyPost_ret (results_row_tmp rfl _ _ _ _ _ _ _ rfl k2 Try.underlying36 rfl (by kernel_rfl)) rfl ?_
    rw [HA.out]
    exact hD
  · have HEK := Lib.hid e
    rw [← Int.tmod_eq_emod_of_nonneg hk0] at e
    go_enter Try.func12, Try.ntmps12
    go_wp2_with (first | rw [HW1.out] | rw [HW.out] | (refine wpList_load_run rfl 36 _ rfl ⟨w.heap.size, 1, none⟩ rfl HLD.out ?_))
    clear e
    have HA : Hid (RA = Net.look M i) := (by rw [← HRA.out]; unfold Hid Net.act; simp [HEK.out])
    generalize Net.look M i = R at *
    refine HLK.out.mono ?_
    rintro e W1 ⟨A, c, T', rfl, g1, g2, g3, g4, g5⟩
    obtain ⟨W2, hst, k2, hD⟩ := HBX.out _ W1 A c T' g1.out g2.out g3.out g4.out g5.out
    have HST := Lib.hid hst
    clear hst
    go_wp2_with (refine wpList_store_run rfl 36 _ _ rfl ⟨w1.heap.size, 0, none⟩ _ rfl rfl HST.out ?_)
    refine bodyPost_ret (results_row_tmp rfl _ _ _ _ _ _ _ rfl k2 Try.underlying36 rfl (by kernel_rfl)) rfl ?_
    rw [HA.out]
    exact hD
  · have HEK := Lib.hid e
    rw [← Int.tmod_eq_emod_of_nonneg hk0] at e
    go_enter Try.func12, Try.ntmps12
    go_wp2_with (first | rw [HW1.out] | rw [HW.out] | (refine wpList_load_run rfl 36 _ rfl ⟨w.heap.size, 1, none⟩ rfl HLD.out ?_))
    clear e
    have HA : Hid (RA = Net.take M i) := (by rw [← HRA.out]; unfold Hid Net.act; simp [HEK.out])
    generalize Net.take M i = R at *
    refine HTK.out.mono ?_
    rintro e W1 ⟨A, c, T', rfl, g1, g2, g3, g4, g5⟩
    obtain ⟨W2, hst, k2, hD⟩ := HBX.out _ W1 A c T' g1.out g2.out g3.out g4.out g5.out
    have HST := Lib.hid hst
    clear hst
    go_wp2_with (refine wpList_store_run rfl 36 _ _ rfl ⟨w1.heap.size, 0, none⟩ _ rfl rfl HST.out ?_)
    refine bodyPost_ret (results_row_tmp rfl _ _ _ _ _ _ _ rfl k2 Try.underlying36 rfl (by kernel_rfl)) rfl ?_
    rw [HA.out]
    exact hD
  · have HEK := Lib.hid e
    rw [← Int.tmod_eq_emod_of_nonneg hk0] at e
    go_enter Try.func12, Try.ntmps12
    go_wp2_with (first | rw [HW1.out] | rw [HW.out] | (refine wpList_load_run rfl 36 _ rfl ⟨w.heap.size, 1, none⟩ rfl HLD.out ?_))
    clear e
    have HA : Hid (RA = Net.take M i) := (by rw [← HRA.out]; unfold Hid Net.act; simp [HEK.out])
    generalize Net.take M i = R at *
    refine HTK.out.mono ?_
    rintro e W1 ⟨A, c, T', rfl, g1, g2, g3, g4, g5⟩
    obtain ⟨W2, hst, k2, hD⟩ := HBX.out _ W1 A c T' g1.out g2.out g3.out g4.out g5.out
    have HST := Lib.hid hst
    clear hst
    go_wp2_with (refine wpList_store_run rfl 36 _ _ rfl ⟨w1.heap.size, 0, none⟩ _ rfl rfl HST.out ?_)
    refine bodyPost_ret (results_row_tmp rfl _ _ _ _ _ _ _ rfl k2 Try.underlying36 rfl (by kernel_rfl)) rfl ?_
    rw [HA.out]
    exact hD
  · have HEK := Lib.hid e
    rw [← Int.tmod_eq_emod_of_nonneg hk0] at e
    go_enter Try.func12, Try.ntmps12
    go_wp2_with (first | rw [HW1.out] | rw [HW.out] | (refine wpList_load_run rfl 36 _ rfl ⟨w.heap.size, 1, none⟩ rfl HLD.out ?_))
    clear e
    have HA : Hid (RA = ((Net.copy M i).1, Net.ml0, (Net.copy M i).2)) := (by rw [← HRA.out]; unfold Hid Net.act; simp [HEK.out])
    refine (rcopy_any i HI.out).mono ?_
    rintro e W1 ⟨rfl, hc⟩
    obtain ⟨T', g1, g2, g3⟩ := hc.out
    obtain ⟨W2, hst, k2, hD⟩ := HBX.out (_, Net.ml0, _) W1 none 0 T' g1 g2 g3 (EOwn.nil W1 0).ents (fun k h0 => by cases h0)
    have HST := Lib.hid hst
    clear hst
    go_wp2_with (refine wpList_store_run rfl 36 _ _ rfl ⟨w1.heap.size, 0, none⟩ (.agg (mcells Net.hd0 (.slice none 0 0)).toArray) rfl rfl HST.out ?_)
    refine bodyPost_ret (results_row_tmp rfl _ _ _ _ _ _ _ rfl k2 Try.underlying36 rfl (by kernel_rfl)) rfl ?_
    rw [HA.out]
    exact hD
  · have HEK := Lib.hid e
    rw [← Int.tmod_eq_emod_of_nonneg hk0] at e
    go_enter Try.func12, Try.ntmps12
    go_wp2_with (first | rw [HW1.out] | rw [HW.out] | (refine wpList_load_run rfl 36 _ rfl ⟨w.heap.size, 1, none⟩ rfl HLD.out ?_))
    clear e
    have HA : Hid (RA = ((Net.take M i).1, Net.ml0, (Net.take M i).2.2)) := (by rw [← HRA.out]; unfold Hid Net.act; simp [HEK.out])
    refine (rdrop_any i HI.out).mono ?_
    rintro e W1 ⟨rfl, hc⟩
    obtain ⟨T', g1, g2, g3⟩ := hc.out
    obtain ⟨W2, hst, k2, hD⟩ := HBX.out (_, Net.ml0, _) W1 none 0 T' g1 g2 g3 (EOwn.nil W1 0).ents (fun k h0 => by cases h0)
    have HST := Lib.hid hst
    clear hst
    go_wp2_with (refine wpList_store_run rfl 36 _ _ rfl ⟨w1.heap.size, 0, none⟩ (.agg (mcells Net.hd0 (.slice none 0 0)).toArray) rfl rfl HST.out ?_)
    refine bodyPost_ret (results_row_tmp rfl _ _ _ _ _ _ _ rfl k2 Try.underlying36 rfl (by kernel_rfl)) rfl ?_
    rw [HA.out]
    exact hD
end
end Go.Proofs.Ytlejlmlgcehjiaa
