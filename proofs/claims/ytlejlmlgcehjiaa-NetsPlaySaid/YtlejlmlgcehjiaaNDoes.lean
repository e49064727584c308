/-
  does: an act done with the program's net.
-/
import Derived.Test.YtlejlmlgcehjiaaNActs
namespace Go.Proofs.Ytlejlmlgcehjiaa
open Go.RowKit
section
variable {w w' : World} {n : Nat} {M : List Net.Ml} {S : Nat → Prop}
theorem act_cells {W : World} {b : Nat} {x : AV} {t : TypeId} (hb : W.heap[b]? = some (.cells (acells x).toArray t (0, 0))) (j : Nat) : W.cell? ⟨b, j, none⟩ = (acells x)[j]? := by
  rw [cell_of_row W b j _ _ _ hb]; simp
theorem act_mail {W : World} {b : Nat} {x : AV} {t : TypeId} (hb : W.heap[b]? = some (.cells (acells x).toArray t (0, 0))) : (loadVar 36 ⟨b, 1, none⟩).run Try.prog W = .ok (.agg (mcells x.h x.v).toArray) W := by
  refine run_load_mail (o := 1) fun j hj => ?_
  rw [act_cells hb, Nat.add_comm 1 j]
  show (mcells x.h x.v ++ [.int .i64 x.i])[j]? = _
  rw [List.getElem?_append_left (by exact hj)]
set_option maxRecDepth 100000 in
set_option maxHeartbeats 2000000 in
theorem does_told (x : AV) (hk0 : 0 ≤ x.k) (h : IsNet HN w n M S) (hE : Ents w x.v x.es) (hl : x.es.length ≤ 4000) : Calls Try.prog 11 #[.pointer (some ⟨n, 0, none⟩), .agg (acells x).toArray] w (Told w n S (Net.act M x.k x.ml x.i)) := by
  obtain ⟨w1, hw1⟩ : ∃ w1, w1 = w.alloc (.cells (acells x).toArray 38) := ⟨_, rfl⟩
  obtain ⟨W, hW⟩ : ∃ W, W = w1.alloc (.cells #[.int .i64 0, .int .i64 0, .int .i64 0, .int .i64 0, .int .i64 0, .int .i64 0, .int .i64 0, .int .i64 0, .int .i64 0, .slice none 0 0, .int .i64 0, .int .i64 0, .int .i64 0, .int .i64 0, .int .i64 0, .int .i64 0, .int .i64 0, .int .i64 0] 36) := ⟨_, rfl⟩
  have hb1 : Below w.heap.size w w1 := by rw [hw1]; exact (Below.refl _ _).alloc (Nat.le_refl _) _
  have hs1 : w1.heap.size = w.heap.size + 1 := by rw [hw1]; simp
  have hb2 : Below w1.heap.size w1 W := by rw [hW]; exact (Below.refl _ _).alloc (Nat.le_refl _) _
  have n3 : W.heap[w.heap.size]? = some (.cells (acells x).toArray 38 (0, 0)) := by rw [hb2.block _ (by omega), hw1]; exact heap_alloc_new w _
  have n4 : W.heap[w1.heap.size]? = some (.cells #[.int .i64 0, .int .i64 0, .int .i64 0, .int .i64 0, .int .i64 0, .int .i64 0, .int .i64 0, .int .i64 0, .int .i64 0, .slice none 0 0, .int .i64 0, .int .i64 0, .int .i64 0, .int .i64 0, .int .i64 0, .int .i64 0, .int .i64 0, .int .i64 0] 36 (0, 0)) := by rw [hW]; exact heap_alloc_new w1 _
  have hb0 := hb1.trans (hb2.mono hb1.size)
  have HI := Lib.hid (h.below hb0)
  have HE := Lib.hid (hE.below hb0)
  have hlt1 : ∀ k, S k → k < w1.heap.size := fun k hk => by have := h.lt hk; omega
  have HTB := Lib.hid (fun (R : List Net.Ml × Net.Ml × Bool) W1 A c => told_box (n := n) (S := S) (R := R) (W1 := W1) (A := A) (c := c) hb2 n4 rfl rfl hlt1)
  have HLD := Lib.hid (act_mail n3)
  have HB1 := Lib.hid hb1
  have HW1 := Lib.hid hw1.symm
  have HW := Lib.hid hW.symm
  have HS1 := Lib.hid hs1
  have hc0 := act_cells n3 0
  have hc19 := act_cells n3 19
  have HCH := Lib.hid (fun (M' : List Net.Ml) (ok : Bool) (W1 : World) (hc : Hid (Chg HN W n S M' W1)) => (by
    obtain ⟨S', c1, c2, c3⟩ := hc.out
    exact told_box (n := n) (S := S) (R := (M', Net.ml0, ok)) (A := none) (c := 0) hb2 n4 rfl rfl hlt1 ⟨S', c1, c2, c3, EOwn.nil _ _, fun k hk => by cases hk⟩ :
      ∃ W2, (storeVar 36 ⟨w1.heap.size, 0, none⟩ (.agg (mcells Net.hd0 (.slice none 0 0)).toArray)).run Try.prog W1 = .ok () W2 ∧ W2.heap[w1.heap.size]? = some (.cells (mcells Net.hd0 (.slice none 0 0)).toArray 36 (0, 0)) ∧ ToldAt w1 n S (M', Net.ml0, ok) (.slice none 0 0) W2))
  clear h hE hlt1 hw1 hW hb1 hs1 hb2 n3 n4 hb0
  obtain ⟨xk, hd, ea, ec, es, i⟩ := x
  unfold AV.ml AV.v at *
  dsimp only at hk0 hl HLD HE ⊢
  have hc0 : W.cell? ⟨w.heap.size, 0, none⟩ = some (.int .u8 xk) := hc0.trans rfl
  have hc19 : W.cell? ⟨w.heap.size, 19, none⟩ = some (.int .i64 i) := hc19.trans rfl
  generalize hA : acells ⟨xk, hd, ea, ec, es, i⟩ = ac at *
  clear hA
  obtain ⟨RA, HRA⟩ : ∃ R, Hid (Net.act M xk ⟨hd, es⟩ i = R) := ⟨_, rfl⟩
  rw [HRA.out]
  have HLK := Lib.hid (look_any i HI.out)
  have HTK := Lib.hid (take_any i HI.out)
  have hm : xk % 9 = 0 ∨ xk % 9 = 1 ∨ xk % 9 = 2 ∨ xk % 9 = 3 ∨ xk % 9 = 4 ∨ xk % 9 = 5 ∨ xk % 9 = 6 ∨ xk % 9 = 7 ∨ xk % 9 = 8 := by omega
  rcases hm with e | e | e | e | e | e | e | e | e
  · have HEK := Lib.hid e
    rw [← Int.tmod_eq_emod_of_nonneg hk0] at e
    go_enter Try.func11, Try.ntmps11
    go_wp2_with (first | rw [HW1.out] | rw [HW.out] | (refine wpList_load_run rfl 36 _ rfl ⟨w.heap.size, 1, none⟩ rfl HLD.out ?_))
    clear e
    have HA : Hid (RA = ((Net.send M ⟨hd, es⟩).1, Net.ml0, (Net.send M ⟨hd, es⟩).2)) := (by rw [← HRA.out]; unfold Hid Net.act; simp [HEK.out])
    refine (send_any hd HI.out HE.out (by omega)).mono ?_
    rintro e W1 ⟨rfl, hc⟩
    obtain ⟨W2, hst, k2, hT2⟩ := HCH.out _ _ W1 hc
    have HT := Lib.hid (hT2.from_ HB1.out)
    have HST := Lib.hid hst
    clear hst
    go_wp2_with (refine wpList_store_run rfl 36 _ _ rfl ⟨w1.heap.size, 0, none⟩ (.agg (mcells Net.hd0 (.slice none 0 0)).toArray) rfl rfl HST.out ?_)
    refine bodyPost_ret (results_row_tmp rfl _ _ _ _ _ _ _ rfl k2 Try.underlying36 rfl (by kernel_rfl)) rfl ?_
    rw [HA.out]
    exact ⟨none, 0, rfl, HT⟩
  · have HEK := Lib.hid e
    rw [← Int.tmod_eq_emod_of_nonneg hk0] at e
    go_enter Try.func11, Try.ntmps11
    go_wp2_with (first | rw [HW1.out] | rw [HW.out] | (refine wpList_load_run rfl 36 _ rfl ⟨w.heap.size, 1, none⟩ rfl HLD.out ?_))
    clear e
    have HA : Hid (RA = ((Net.send M ⟨hd, es⟩).1, Net.ml0, (Net.send M ⟨hd, es⟩).2)) := (by rw [← HRA.out]; unfold Hid Net.act; simp [HEK.out])
    refine (send_any hd HI.out HE.out (by omega)).mono ?_
    rintro e W1 ⟨rfl, hc⟩
    obtain ⟨W2, hst, k2, hT2⟩ := HCH.out _ _ W1 hc
    have HT := Lib.hid (hT2.from_ HB1.out)
    have HST := Lib.hid hst
    clear hst
    go_wp2_with (refine wpList_store_run rfl 36 _ _ rfl ⟨w1.heap.size, 0, none⟩ (.agg (mcells Net.hd0 (.slice none 0 0)).toArray) rfl rfl HST.out ?_)
    refine bodyPost_ret (results_row_tmp rfl _ _ _ _ _ _ _ rfl k2 Try.underlying36 rfl (by kernel_rfl)) rfl ?_
    rw [HA.out]
    exact ⟨none, 0, rfl, HT⟩
  · have HEK := Lib.hid e
    rw [← Int.tmod_eq_emod_of_nonneg hk0] at e
    go_enter Try.func11, Try.ntmps11
    go_wp2_with (first | rw [HW1.out] | rw [HW.out] | (refine wpList_load_run rfl 36 _ rfl ⟨w.heap.size, 1, none⟩ rfl HLD.out ?_))
    clear e
    have HA : Hid (RA = ((Net.send M ⟨hd, es⟩).1, Net.ml0, (Net.send M ⟨hd, es⟩).2)) := (by rw [← HRA.out]; unfold Hid Net.act; simp [HEK.out])
    refine (send_any hd HI.out HE.out (by omega)).mono ?_
    rintro e W1 ⟨rfl, hc⟩
    obtain ⟨W2, hst, k2, hT2⟩ := HCH.out _ _ W1 hc
    have HT := Lib.hid (hT2.from_ HB1.out)
    have HST := Lib.hid hst
    clear hst
    go_wp2_with (refine wpList_store_run rfl 36 _ _ rfl ⟨w1.heap.size, 0, none⟩ (.agg (mcells Net.hd0 (.slice none 0 0)).toArray) rfl rfl HST.out ?_)
    refine bodyPost_ret (results_row_tmp rfl _ _ _ _ _ _ _ rfl k2 Try.underlying36 rfl (by kernel_rfl)) rfl ?_
    rw [HA.out]
    exact ⟨none, 0, rfl, HT⟩
  · have HEK := Lib.hid e
    rw [← Int.tmod_eq_emod_of_nonneg hk0] at e
    go_enter Try.func11, Try.ntmps11
    go_wp2_with (first | rw [HW1.out] | rw [HW.out] | (refine wpList_load_run rfl 36 _ rfl ⟨w.heap.size, 1, none⟩ rfl HLD.out ?_))
    clear e
    have HA : Hid (RA = ((Net.send M ⟨hd, es⟩).1, Net.ml0, (Net.send M ⟨hd, es⟩).2)) := (by rw [← HRA.out]; unfold Hid Net.act; simp [HEK.out])
    refine (send_any hd HI.out HE.out (by omega)).mono ?_
    rintro e W1 ⟨rfl, hc⟩
    obtain ⟨W2, hst, k2, hT2⟩ := HCH.out _ _ W1 hc
    have HT := Lib.hid (hT2.from_ HB1.out)
    have HST := Lib.hid hst
    clear hst
    go_wp2_with (refine wpList_store_run rfl 36 _ _ rfl ⟨w1.heap.size, 0, none⟩ (.agg (mcells Net.hd0 (.slice none 0 0)).toArray) rfl rfl HST.out ?_)
    refine bodyPost_ret (results_row_tmp rfl _ _ _ _ _ _ _ rfl k2 Try.underlying36 rfl (by kernel_rfl)) rfl ?_
    rw [HA.out]
    exact ⟨none, 0, rfl, HT⟩
  · have HEK := Lib.hid e
    rw [← Int.tmod_eq_emod_of_nonneg hk0] at e
    go_enter Try.func11, Try.ntmps11
    go_wp2_with (first | rw [HW1.out] | rw [HW.out] | (refine wpList_load_run rfl 36 _ rfl ⟨w.heap.size, 1, none⟩ rfl HLD.out ?_))
    clear e
    have HA : Hid (RA = Net.look M i) := (by rw [← HRA.out]; unfold Hid Net.act; simp [HEK.out])
    generalize Net.look M i = R at *
    refine HLK.out.mono ?_
    rintro e W1 ⟨A, c, rfl, hT⟩
    obtain ⟨W2, hst, k2, hT2⟩ := HTB.out _ W1 A c hT.out
    have HT := Lib.hid (hT2.from_ HB1.out)
    have HST := Lib.hid hst
    clear hT2 hst hT
    go_wp2_with (refine wpList_store_run rfl 36 _ _ rfl ⟨w1.heap.size, 0, none⟩ _ rfl rfl HST.out ?_)
    refine bodyPost_ret (results_row_tmp rfl _ _ _ _ _ _ _ rfl k2 Try.underlying36 rfl (by kernel_rfl)) rfl ?_
    rw [HA.out]
    exact ⟨A, c, rfl, HT⟩
  · have HEK := Lib.hid e
    rw [← Int.tmod_eq_emod_of_nonneg hk0] at e
    go_enter Try.func11, Try.ntmps11
    go_wp2_with (first | rw [HW1.out] | rw [HW.out] | (refine wpList_load_run rfl 36 _ rfl ⟨w.heap.size, 1, none⟩ rfl HLD.out ?_))
    clear e
    have HA : Hid (RA = Net.take M i) := (by rw [← HRA.out]; unfold Hid Net.act; simp [HEK.out])
    generalize Net.take M i = R at *
    refine HTK.out.mono ?_
    rintro e W1 ⟨A, c, rfl, hT⟩
    obtain ⟨W2, hst, k2, hT2⟩ := HTB.out _ W1 A c hT.out
    have HT := Lib.hid (hT2.from_ HB1.out)
    have HST := Lib.hid hst
    clear hT2 hst hT
    go_wp2_with (refine wpList_store_run rfl 36 _ _ rfl ⟨w1.heap.size, 0, none⟩ _ rfl rfl HST.out ?_)
    refine bodyPost_ret (results_row_tmp rfl _ _ _ _ _ _ _ rfl k2 Try.underlying36 rfl (by kernel_rfl)) rfl ?_
    rw [HA.out]
    exact ⟨A, c, rfl, HT⟩
  · have HEK := Lib.hid e
    rw [← Int.tmod_eq_emod_of_nonneg hk0] at e
    go_enter Try.func11, Try.ntmps11
    go_wp2_with (first | rw [HW1.out] | rw [HW.out] | (refine wpList_load_run rfl 36 _ rfl ⟨w.heap.size, 1, none⟩ rfl HLD.out ?_))
    clear e
    have HA : Hid (RA = Net.take M i) := (by rw [← HRA.out]; unfold Hid Net.act; simp [HEK.out])
    generalize Net.take M i = R at *
    refine HTK.out.mono ?_
    rintro e W1 ⟨A, c, rfl, hT⟩
    obtain ⟨W2, hst, k2, hT2⟩ := HTB.out _ W1 A c hT.out
    have HT := Lib.hid (hT2.from_ HB1.out)
    have HST := Lib.hid hst
    clear hT2 hst hT
    go_wp2_with (refine wpList_store_run rfl 36 _ _ rfl ⟨w1.heap.size, 0, none⟩ _ rfl rfl HST.out ?_)
    refine bodyPost_ret (results_row_tmp rfl _ _ _ _ _ _ _ rfl k2 Try.underlying36 rfl (by kernel_rfl)) rfl ?_
    rw [HA.out]
    exact ⟨A, c, rfl, HT⟩
  · have HEK := Lib.hid e
    rw [← Int.tmod_eq_emod_of_nonneg hk0] at e
    go_enter Try.func11, Try.ntmps11
    go_wp2_with (first | rw [HW1.out] | rw [HW.out] | (refine wpList_load_run rfl 36 _ rfl ⟨w.heap.size, 1, none⟩ rfl HLD.out ?_))
    clear e
    have HA : Hid (RA = ((Net.copy M i).1, Net.ml0, (Net.copy M i).2)) := (by rw [← HRA.out]; unfold Hid Net.act; simp [HEK.out])
    refine (copy_any i HI.out).mono ?_
    rintro e W1 ⟨rfl, hc⟩
    obtain ⟨W2, hst, k2, hT2⟩ := HCH.out _ _ W1 hc
    have HT := Lib.hid (hT2.from_ HB1.out)
    have HST := Lib.hid hst
    clear hst
    go_wp2_with (refine wpList_store_run rfl 36 _ _ rfl ⟨w1.heap.size, 0, none⟩ (.agg (mcells Net.hd0 (.slice none 0 0)).toArray) rfl rfl HST.out ?_)
    refine bodyPost_ret (results_row_tmp rfl _ _ _ _ _ _ _ rfl k2 Try.underlying36 rfl (by kernel_rfl)) rfl ?_
    rw [HA.out]
    exact ⟨none, 0, rfl, HT⟩
  · have HEK := Lib.hid e
    rw [← Int.tmod_eq_emod_of_nonneg hk0] at e
    go_enter Try.func11, Try.ntmps11
    go_wp2_with (first | rw [HW1.out] | rw [HW.out] | (refine wpList_load_run rfl 36 _ rfl ⟨w.heap.size, 1, none⟩ rfl HLD.out ?_))
    clear e
    have HA : Hid (RA = ((Net.take M i).1, Net.ml0, (Net.take M i).2.2)) := (by rw [← HRA.out]; unfold Hid Net.act; simp [HEK.out])
    refine (drop_any i HI.out).mono ?_
    rintro e W1 ⟨rfl, hc⟩
    obtain ⟨W2, hst, k2, hT2⟩ := HCH.out _ _ W1 hc
    have HT := Lib.hid (hT2.from_ HB1.out)
    have HST := Lib.hid hst
    clear hst
    go_wp2_with (refine wpList_store_run rfl 36 _ _ rfl ⟨w1.heap.size, 0, none⟩ (.agg (mcells Net.hd0 (.slice none 0 0)).toArray) rfl rfl HST.out ?_)
    refine bodyPost_ret (results_row_tmp rfl _ _ _ _ _ _ _ rfl k2 Try.underlying36 rfl (by kernel_rfl)) rfl ?_
    rw [HA.out]
    exact ⟨none, 0, rfl, HT⟩
end
theorem on_does {w0 wB w : World} {SB : Nat → Prop} {n : Nat} {M M' : List Net.Ml} (x : AV) (hk0 : 0 ≤ x.k) (h : Hid (On w0 wB SB n M w)) (hE : Ents w x.v x.es) (hl : x.es.length ≤ 4000) {m : Net.Ml} {r : Bool} (hR : Net.act M x.k x.ml x.i = (M', m, r)) :
    Calls Try.prog 11 #[.pointer (some ⟨n, 0, none⟩), .agg (acells x).toArray] w (ToldOn w0 wB SB n M' m r) := by
  obtain ⟨⟨S, h1, hf, h2⟩, h3⟩ := h.out
  refine (does_told x hk0 h1 hE hl).mono fun e w' hT => ?_
  have := On.told h.out hf h2 hT
  rw [hR] at this
  exact this
end Go.Proofs.Ytlejlmlgcehjiaa
