/-
  Len, Send.
-/
import Derived.Test.YtlejlmlgcehjiaaNNet
import Derived.Test.YtlejlmlgcehjiaaKHeld
namespace Go.Proofs.Ytlejlmlgcehjiaa
open Go.RowKit
section
variable {w w' : World} {n : Nat} {M : List Net.Ml} {S : Nat → Prop}
theorem hn_cells {v : Value} (h : w.heap[n]? = some (HN v)) : w.cell? ⟨n, 0, none⟩ = some (.bool true) ∧ w.cell? ⟨n, 1, none⟩ = some v ∧ ∀ o, w.frozen? ⟨n, o, none⟩ = false := by
  unfold HN at h
  refine ⟨?_, ?_, fun o => frozen_of_row w n o _ _ h⟩ <;> (rw [cell_of_row w n _ _ _ _ h]; rfl)
theorem run_exec_load {P : Program} {ev : Operand → Value} {o : Oper} {X : World} {v : Value} (ty : TypeId) (x : Operand) (ho : o.op = .load ty x) (a : Addr) (hx : ev x = .pointer (some a)) (hr : (loadVar ty a).run P X = .ok v X) : (execOp ev o).run P X = .ok (Next.value v) X := by
  simp only [execOp, ho, hx, Instr.loadAt, Instr.sureAddr, Sem.run_bind, Sem.run_pure, Result.andThen_ok, hr]
theorem len_any (h : IsNet HN w n M S) : Calls Try.prog 15 #[.pointer (some ⟨n, 0, none⟩)] w fun e w' => e = .returned (.int .i64 (M.length : Int)) ∧ w = w' := by
  obtain ⟨v, ms, h⟩ := h
  obtain ⟨A, c, rfl, h1, h2, h3⟩ := h.mails.len
  obtain ⟨k0, k1, kz⟩ := hn_cells h.head
  rw [h.len] at *
  clear h h3
  go_enter Try.func15, Try.ntmps15
  go_wp2
  go_ret
  exact ⟨rfl, rfl⟩
theorem build_mail (h : Net.Hd) (v : Value) : List.foldl (fun (cs : Array Value) (x : Value × Nat) => cs.setIfInBounds x.snd x.fst) #[.int .i64 0, .int .i64 0, .int .i64 0, .int .i64 0, .int .i64 0, .int .i64 0, .int .i64 0, .int .i64 0, .int .i64 0, .slice none 0 0, .int .i64 0, .int .i64 0, .int .i64 0, .int .i64 0, .int .i64 0, .int .i64 0, .int .i64 0, .int .i64 0] (mcells h v).zipIdx = (mcells h v).toArray := by kernel_rfl
/-- The append of a message with entries of its own: what it comes to, and what is left behind the store. -/
theorem send_append {W D W1 : World} {A A' : Option Addr} {c c' : Nat} {ms : List MM} {hd : Net.Hd} {es : List Net.Ent} {cs : Array Value} {t : TypeId} {b : Nat} (hN : NetAt HN W n M S (.slice A ms.length c) ms) (h5 : ms.length < 512) (hb : b < W.heap.size)
    (hnb : ¬ S b) (hbx : W.heap[b]? = some (.cells cs t (0, 0))) (BD : Below W.heap.size W D) (hE : EOwn W1 D.heap.size (.slice A' es.length c') es) (hB : Below D.heap.size D W1) (hl : es.length ≤ 100000) :
    ∃ A3 c3 W3, Hid ((Builtin.append_ #[27, 27] 27 #[.slice A ms.length c, .slice (some ⟨W1.heap.size, 0, none⟩) 1 1]).run Try.prog (W1.alloc (.cells (mcells hd (.slice A' es.length c')).toArray 36)) = .ok (.slice A3 (ms.length + 1) c3) W3) ∧
      Hid ((W1.alloc (.cells (mcells hd (.slice A' es.length c')).toArray 36)).heap[b]? = some (.cells cs t (0, 0))) ∧ Hid (W3.heap[b]? = some (.cells cs t (0, 0))) ∧ W3.frozen? ⟨n, 1, none⟩ = false ∧ W3.cell? ⟨n, 1, none⟩ = some (.slice A ms.length c) ∧
      Hid (Chg HN W n S (M ++ [⟨hd, es⟩]) (W3.setCell ⟨n, 1, none⟩ (.slice A3 (ms.length + 1) c3))) := by
  obtain ⟨i0, hi, hz0, hz1, hz2⟩ := info_parts Try.info_mail
  have hb1 : Below W.heap.size W W1 := BD.trans (hB.mono BD.size)
  have hb2 := (Below.refl W1.heap.size W1).alloc (Nat.le_refl _) (.cells (mcells hd (.slice A' es.length c')).toArray 36)
  have hbb := hb1.trans (hb2.mono hb1.size)
  have h2 := hN.below hbb
  have hnew : ∀ j u, (mcells hd (.slice A' es.length c'))[j]? = some u → (W1.alloc (.cells (mcells hd (.slice A' es.length c')).toArray 36)).cell? ((⟨W1.heap.size, 0, none⟩ : Addr).add j) = some u := fun j u hu => by
    rw [Addr.add_lit, Nat.zero_add, mail_cells (heap_alloc_new W1 _)]; exact hu
  obtain ⟨v', W3, hr, hg⟩ := run_append_grew (P := Try.prog) _ 27 27 36 i0 _ 18 160 Try.underlying27 hi hz0 hz1 hz2 rfl (by decide) _ _ _ h2.mails.row ⟨W1.heap.size, 0, none⟩ 1 1 (mcells hd (.slice A' es.length c')) rfl hnew (mcells_one hd rfl) (by unfold maxLen; omega) (by omega)
  obtain ⟨A3, c3, rfl, _⟩ := own_is_slice hg.1
  have hnS : ∀ k, (Value.slice A ms.length c).ownBlock = some k → k ≠ b ∧ k ≠ n := fun k e => ⟨fun e' => hnb (e' ▸ hN.inS k (.inl e)), hN.offn k (.inl e)⟩
  have hnl := hN.lt n hN.inn
  have hh3 := hg.2.1.kept h2.head fun e => (hnS n e).2 rfl
  have hx2 := (hbb.block b hb).trans hbx
  obtain ⟨k0, k1, kz⟩ := hn_cells hh3
  refine ⟨A3, c3, W3, hr, hx2, hg.2.1.kept hx2 fun e => (hnS b e).1 rfl, kz 1, k1, hN.sent (by rw [← hN.len]; exact h5) hb1 (EOwn.base hE BD.size) hl hb2 hg (Foot.set (fun k => k = n) W3 ⟨n, 1, none⟩ _ rfl) ?_⟩
  rw [setCell_eq_setRow W3 n 1 _ _ _ _ hh3, setRow_heap W3 n _ _ _ _ hh3]
  rfl
set_option maxRecDepth 100000 in
set_option maxHeartbeats 600000 in
theorem send_any (hd : Net.Hd) {mv : Value} {es : List Net.Ent} (h : IsNet HN w n M S) (hE : Ents w mv es) (hl : es.length ≤ 100000) : Calls Try.prog 20 #[.pointer (some ⟨n, 0, none⟩), mval hd mv] w
    fun e w' => e = .returned (.bool (Net.send M ⟨hd, es⟩).2) ∧ Hid (Chg HN w n S (Net.send M ⟨hd, es⟩).1 w') := by
  have hb0 : Below w.heap.size w (w.alloc (.cells (mcells hd mv).toArray 36)) := (Below.refl _ _).alloc (Nat.le_refl _) _
  have hN := h.below hb0
  have hE0 := hE.below hb0
  by_cases hf : 512 ≤ M.length
  · have hR : Net.send M ⟨hd, es⟩ = (M, false) := if_pos hf
    rw [hR]
    obtain ⟨v, ms, h⟩ := h
    obtain ⟨A, c, rfl, h1, h2, h3⟩ := h.mails.len
    obtain ⟨k0, k1, kz⟩ := hn_cells h.head
    have z0 := kz 0
    have HC : Hid (Chg HN w n S M (w.alloc (.cells (mcells hd mv).toArray 36))) := Chg.same ⟨_, _, h⟩ hb0
    have hlt := h.lt n h.inn
    have h512 := h.few
    rw [h.len] at *
    unfold mval
    clear h h3 hR kz hN hE hE0 hb0
    have hq : M.length = 512 := by omega
    go_enter Try.func20, Try.ntmps20
    go_wp2
    go_ret
    exact ⟨rfl, HC⟩
  · have hR : Net.send M ⟨hd, es⟩ = (M ++ [⟨hd, es⟩], true) := if_neg hf
    rw [hR]
    have hnb : ¬ S w.heap.size := fun e => by
      obtain ⟨v, ms, h⟩ := h
      have := h.lt _ e; omega
    have HBX := Lib.hid (heap_alloc_new w (.cells (mcells hd mv).toArray 36))
    have HB0 := Lib.hid hb0
    obtain ⟨v, ms, hN⟩ := hN
    obtain ⟨A, c, rfl, h1, h2, h3⟩ := hN.mails.len
    obtain ⟨k0, k1, kz⟩ := hn_cells hN.head
    unfold mval
    have hlt : ms.length < 512 := by rw [hN.len]; omega
    have t512 : decide ((512 : Int) ≤ (ms.length : Int)) = false := decide_eq_false (by omega)
    generalize hW : w.alloc (.cells (mcells hd mv).toArray 36) = W at *
    have HW := Lib.hid hW
    have hbx : w.heap.size < W.heap.size := by rw [← hW]; simp
    have BD : Hid (Below W.heap.size W W.drew) := (Below.refl _ _).drew
    have HOW := Lib.hid (own_any (w := W.drew) hd (hE0.below BD.out) hl)
    have HNN := Lib.hid hN
    have HS1 := Lib.hid (fun X (h : Below W.heap.size W X) => (And.intro ((h.cell (p := ⟨n, 1, none⟩) (hN.lt n hN.inn)).trans k1) ((h.block w.heap.size hbx).trans HBX.out) : X.cell? ⟨n, 1, none⟩ = some (.slice A ms.length c) ∧ X.heap[w.heap.size]? = some (.cells (mcells hd mv).toArray 36 (0, 0))))
    have hm18 : ∀ v, (mcells hd v).length = 18 := fun _ => rfl
    have HS0 := Lib.hid (HS1.out _ BD.out).2
    have hbn : ¬ w.heap.size = n := fun e => hnb (e ▸ HNN.out.inn)
    have HAP := Lib.hid (fun (W1 : World) (A' : Option Addr) (c' : Nat) h1 h2 => send_append (hd := hd) HNN.out hlt hbx hnb HBX.out BD.out h1 h2 (W1 := W1) (A' := A') (c' := c') hl)
    have HS2 := Lib.hid (fun (W1 : World) (A' : Option Addr) (c' : Nat) (h : Hid (Below W.drew.heap.size W.drew W1)) => (((Below.refl W1.heap.size W1).alloc (Nat.le_refl _) (.cells (mcells hd (.slice A' es.length c')).toArray 36)).cell (p := ⟨n, 1, none⟩) (Nat.lt_of_lt_of_le (HNN.out.lt n HNN.out.inn) h.out.size)).trans (HS1.out _ (BD.out.trans (h.out.mono (Nat.le_refl _)))).1)
    have z0 := kz 0
    have z1 := kz 1
    clear h h3 hR hE hb0 hW kz hf hN hE0
    go_enter Try.func20, Try.ntmps20
    go_wp2_with (rw [HW.out])
    refine wp_region_held_drew (S := fun X => X.heap[w.heap.size]? = some (.cells (mcells hd mv).toArray 36 (0, 0))) (by kernel_rfl) HS0.out (fun hS0 => ?_)
    refine wpAnyH_take (i := 0) (v := ?_) rfl (by kernel_rfl) (by kernel_rfl) (by kernel_rfl) (fun _ _ _ h => h) (Or.inl ⟨by rfl, ?_⟩) (by assumption) ?_
    rotate_left
    · intro X hX
      go_simp
      try with_reducible rfl
    try simp only [Act.put, List.setIfInBounds_toArray, List.set_cons_zero, List.set_cons_succ, List.getElem_toArray, List.getElem_cons_zero]
    refine wpAnyH_take (i := 1) (v := ?_) rfl (by kernel_rfl) (by kernel_rfl) (by kernel_rfl) (fun _ _ _ h => h) (Or.inl ⟨by rfl, ?_⟩) (by assumption) ?_
    rotate_left
    · intro X hX
      go_simp
      try with_reducible rfl
    try simp only [Act.put, List.setIfInBounds_toArray, List.set_cons_zero, List.set_cons_succ, List.getElem_toArray, List.getElem_cons_succ, List.getElem_cons_zero]
    refine wpAnyH_take (i := 2) (v := ?_) rfl (by kernel_rfl) (by kernel_rfl) (by kernel_rfl) (fun _ _ _ h => h) (Or.inl ⟨by rfl, ?_⟩) (by assumption) ?_
    rotate_left
    · intro X hX
      go_simp
      try with_reducible rfl
    try simp only [Act.put, List.setIfInBounds_toArray, List.set_cons_zero, List.set_cons_succ, List.getElem_toArray, List.getElem_cons_succ, List.getElem_cons_zero]
    refine wpAnyH_take (i := 3) (v := ?_) rfl (by kernel_rfl) (by kernel_rfl) (by kernel_rfl) (fun _ _ _ h => h) (Or.inl ⟨by rfl, ?_⟩) (by assumption) ?_
    rotate_left
    · intro X hX
      go_simp
      try with_reducible rfl
    try simp only [Act.put, List.setIfInBounds_toArray, List.set_cons_zero, List.set_cons_succ, List.getElem_toArray, List.getElem_cons_succ, List.getElem_cons_zero]
    refine wpAnyH_take (i := 5) (v := .agg (mcells hd mv).toArray) rfl (by kernel_rfl) (by kernel_rfl) (by kernel_rfl) (fun _ _ _ h => h) (Or.inl ⟨by rfl, ?_⟩) (by assumption) ?_
    · intro X hX
      exact run_exec_load 36 (.tmp 3) rfl ⟨w.heap.size, 0, none⟩ rfl (run_loadVar_row X w.heap.size _ _ (mcells hd mv).toArray _ _ hX Try.underlying36 rfl (by kernel_rfl))
    try simp only [Act.put, List.setIfInBounds_toArray, List.set_cons_zero, List.set_cons_succ, List.getElem_toArray, List.getElem_cons_succ, List.getElem_cons_zero]
    refine wpAnyH_ready (rs := [4,6]) (by kernel_rfl) (by simp) (AllReadyH.cons rfl (fun K hK => ?_) (AllReadyH.cons rfl (fun K hK => ?_) AllReadyH.nil))
    · skip
      go_simp
      have j0 := k1
      go_wp2_with fail
      refine hK.out _ _ ?_ (fun hHeld => ?_)
      · exact (HS0.out)
      clear hK K
      try simp only [Act.put, List.setIfInBounds_toArray, List.set_cons_zero, List.set_cons_succ, List.getElem_toArray, List.getElem_cons_succ, List.getElem_cons_zero]
      refine wpAnyH_ready (rs := [6]) (by kernel_rfl) (by simp) (AllReadyH.cons rfl (fun K hK => ?_) AllReadyH.nil)
      go_simp
      refine HOW.out.mono ?_
      rintro e W1 ⟨A', c', rfl, HE1, HB1⟩
      obtain ⟨j1, x1⟩ := HS1.out _ (BD.out.trans (HB1.out.mono (Nat.le_refl _)))
      obtain ⟨A3, c3, W3, HR3, x2, x3, zz, cc, HG3⟩ := HAP.out _ _ _ HE1.out HB1.out
      go_wp2_with fail
      refine hK.out _ _ ?_ (fun hHeld => ?_)
      · with_reducible exact (x1)
      clear hK K
      try simp only [Act.put, List.setIfInBounds_toArray, List.set_cons_zero, List.set_cons_succ, List.getElem_toArray, List.getElem_cons_succ, List.getElem_cons_zero]
      refine wpAnyH_ready (rs := [7]) (by kernel_rfl) (by simp) (AllReadyH.cons rfl (fun K hK => ?_) AllReadyH.nil)
      go_simp
      simp only [build_mail]
      refine hK.out _ _ ?_ (fun hHeld => ?_)
      · with_reducible exact (x2.out)
      clear hK K
      try simp only [Act.put, List.setIfInBounds_toArray, List.set_cons_zero, List.set_cons_succ, List.getElem_toArray, List.getElem_cons_succ, List.getElem_cons_zero]
      refine wpAnyH_ready (rs := [8]) (by kernel_rfl) (by simp) (AllReadyH.cons rfl (fun K hK => ?_) AllReadyH.nil)
      refine step_append_known rfl _ _ 27 27 rfl (.slice A ms.length c) (.slice (some ⟨W1.heap.size, 0, none⟩) 1 1) (by simp [Act.eval]) (by simp [Act.eval]) HR3.out ?_
      go_wp2_with fail
      refine hK.out _ _ ?_ (fun hHeld => ?_)
      · with_reducible exact (x3.out)
      clear hK K
      try simp only [Act.put, List.setIfInBounds_toArray, List.set_cons_zero, List.set_cons_succ, List.getElem_toArray, List.getElem_cons_succ, List.getElem_cons_zero]
      refine wpAnyH_ready (rs := [9]) (by kernel_rfl) (by simp) (AllReadyH.cons rfl (fun K hK => ?_) AllReadyH.nil)
      go_simp
      go_wp2_with fail
      refine hK.out _ _ ?_ (fun hHeld => ?_)
      · with_reducible exact (x3.out)
      clear hK K
      try simp only [Act.put, List.setIfInBounds_toArray, List.set_cons_zero, List.set_cons_succ, List.getElem_toArray, List.getElem_cons_succ, List.getElem_cons_zero]
      refine wpAnyH_ready (rs := [10]) (by kernel_rfl) (by simp) (AllReadyH.cons rfl (fun K hK => ?_) AllReadyH.nil)
      go_simp
      go_wp2_with fail
      refine hK.out _ _ ?_ (fun hHeld => ?_)
      · with_reducible exact (x3.out)
      clear hK K
      try simp only [Act.put, List.setIfInBounds_toArray, List.set_cons_zero, List.set_cons_succ, List.getElem_toArray, List.getElem_cons_succ, List.getElem_cons_zero]
      refine wpAnyH_ready (rs := [11]) (by kernel_rfl) (by simp) (AllReadyH.cons rfl (fun K hK => ?_) AllReadyH.nil)
      go_simp
      go_wp2_with fail
      refine hK.out _ _ ?_ (fun hHeld => ?_)
      · exact (Below.heap_setCell W3 _ _ _ hbn).trans x3.out
      clear hK K
      try simp only [Act.put, List.setIfInBounds_toArray, List.set_cons_zero, List.set_cons_succ, List.getElem_toArray, List.getElem_cons_succ, List.getElem_cons_zero]
      refine wpAnyH_done (by kernel_rfl) ?_ _
      go_wp2_with fail
      go_ret
      exact ⟨rfl, Lib.hid (Chg.from_ HB0.out HG3.out)⟩
    · skip
      go_simp
      refine HOW.out.mono ?_
      rintro e W1 ⟨A', c', rfl, HE1, HB1⟩
      obtain ⟨j1, x1⟩ := HS1.out _ (BD.out.trans (HB1.out.mono (Nat.le_refl _)))
      obtain ⟨A3, c3, W3, HR3, x2, x3, zz, cc, HG3⟩ := HAP.out _ _ _ HE1.out HB1.out
      go_wp2_with fail
      refine hK.out _ _ ?_ (fun hHeld => ?_)
      · with_reducible exact (x1)
      clear hK K
      try simp only [Act.put, List.setIfInBounds_toArray, List.set_cons_zero, List.set_cons_succ, List.getElem_toArray, List.getElem_cons_succ, List.getElem_cons_zero]
      refine wpAnyH_ready (rs := [4,7]) (by kernel_rfl) (by simp) (AllReadyH.cons rfl (fun K hK => ?_) (AllReadyH.cons rfl (fun K hK => ?_) AllReadyH.nil))
      · skip
        go_simp
        go_wp2_with fail
        refine hK.out _ _ ?_ (fun hHeld => ?_)
        · with_reducible exact (x1)
        clear hK K
        try simp only [Act.put, List.setIfInBounds_toArray, List.set_cons_zero, List.set_cons_succ, List.getElem_toArray, List.getElem_cons_succ, List.getElem_cons_zero]
        refine wpAnyH_ready (rs := [7]) (by kernel_rfl) (by simp) (AllReadyH.cons rfl (fun K hK => ?_) AllReadyH.nil)
        go_simp
        simp only [build_mail]
        refine hK.out _ _ ?_ (fun hHeld => ?_)
        · with_reducible exact (x2.out)
        clear hK K
        try simp only [Act.put, List.setIfInBounds_toArray, List.set_cons_zero, List.set_cons_succ, List.getElem_toArray, List.getElem_cons_succ, List.getElem_cons_zero]
        refine wpAnyH_ready (rs := [8]) (by kernel_rfl) (by simp) (AllReadyH.cons rfl (fun K hK => ?_) AllReadyH.nil)
        refine step_append_known rfl _ _ 27 27 rfl (.slice A ms.length c) (.slice (some ⟨W1.heap.size, 0, none⟩) 1 1) (by simp [Act.eval]) (by simp [Act.eval]) HR3.out ?_
        go_wp2_with fail
        refine hK.out _ _ ?_ (fun hHeld => ?_)
        · with_reducible exact (x3.out)
        clear hK K
        try simp only [Act.put, List.setIfInBounds_toArray, List.set_cons_zero, List.set_cons_succ, List.getElem_toArray, List.getElem_cons_succ, List.getElem_cons_zero]
        refine wpAnyH_ready (rs := [9]) (by kernel_rfl) (by simp) (AllReadyH.cons rfl (fun K hK => ?_) AllReadyH.nil)
        go_simp
        go_wp2_with fail
        refine hK.out _ _ ?_ (fun hHeld => ?_)
        · with_reducible exact (x3.out)
        clear hK K
        try simp only [Act.put, List.setIfInBounds_toArray, List.set_cons_zero, List.set_cons_succ, List.getElem_toArray, List.getElem_cons_succ, List.getElem_cons_zero]
        refine wpAnyH_ready (rs := [10]) (by kernel_rfl) (by simp) (AllReadyH.cons rfl (fun K hK => ?_) AllReadyH.nil)
        go_simp
        go_wp2_with fail
        refine hK.out _ _ ?_ (fun hHeld => ?_)
        · with_reducible exact (x3.out)
        clear hK K
        try simp only [Act.put, List.setIfInBounds_toArray, List.set_cons_zero, List.set_cons_succ, List.getElem_toArray, List.getElem_cons_succ, List.getElem_cons_zero]
        refine wpAnyH_ready (rs := [11]) (by kernel_rfl) (by simp) (AllReadyH.cons rfl (fun K hK => ?_) AllReadyH.nil)
        go_simp
        go_wp2_with fail
        refine hK.out _ _ ?_ (fun hHeld => ?_)
        · exact (Below.heap_setCell W3 _ _ _ hbn).trans x3.out
        clear hK K
        try simp only [Act.put, List.setIfInBounds_toArray, List.set_cons_zero, List.set_cons_succ, List.getElem_toArray, List.getElem_cons_succ, List.getElem_cons_zero]
        refine wpAnyH_done (by kernel_rfl) ?_ _
        go_wp2_with fail
        go_ret
        exact ⟨rfl, Lib.hid (Chg.from_ HB0.out HG3.out)⟩
      · skip
        go_simp
        have j2 := (HS2.out _ A' c' HB1)
        simp only [build_mail]
        refine hK.out _ _ ?_ (fun hHeld => ?_)
        · with_reducible exact (x2.out)
        clear hK K
        try simp only [Act.put, List.setIfInBounds_toArray, List.set_cons_zero, List.set_cons_succ, List.getElem_toArray, List.getElem_cons_succ, List.getElem_cons_zero]
        refine wpAnyH_ready (rs := [4]) (by kernel_rfl) (by simp) (AllReadyH.cons rfl (fun K hK => ?_) AllReadyH.nil)
        go_simp
        go_wp2_with fail
        refine hK.out _ _ ?_ (fun hHeld => ?_)
        · with_reducible exact (x2.out)
        clear hK K
        try simp only [Act.put, List.setIfInBounds_toArray, List.set_cons_zero, List.set_cons_succ, List.getElem_toArray, List.getElem_cons_succ, List.getElem_cons_zero]
        refine wpAnyH_ready (rs := [8]) (by kernel_rfl) (by simp) (AllReadyH.cons rfl (fun K hK => ?_) AllReadyH.nil)
        refine step_append_known rfl _ _ 27 27 rfl (.slice A ms.length c) (.slice (some ⟨W1.heap.size, 0, none⟩) 1 1) (by simp [Act.eval]) (by simp [Act.eval]) HR3.out ?_
        go_wp2_with fail
        refine hK.out _ _ ?_ (fun hHeld => ?_)
        · with_reducible exact (x3.out)
        clear hK K
        try simp only [Act.put, List.setIfInBounds_toArray, List.set_cons_zero, List.set_cons_succ, List.getElem_toArray, List.getElem_cons_succ, List.getElem_cons_zero]
        refine wpAnyH_ready (rs := [9]) (by kernel_rfl) (by simp) (AllReadyH.cons rfl (fun K hK => ?_) AllReadyH.nil)
        go_simp
        go_wp2_with fail
        refine hK.out _ _ ?_ (fun hHeld => ?_)
        · with_reducible exact (x3.out)
        clear hK K
        try simp only [Act.put, List.setIfInBounds_toArray, List.set_cons_zero, List.set_cons_succ, List.getElem_toArray, List.getElem_cons_succ, List.getElem_cons_zero]
        refine wpAnyH_ready (rs := [10]) (by kernel_rfl) (by simp) (AllReadyH.cons rfl (fun K hK => ?_) AllReadyH.nil)
        go_simp
        go_wp2_with fail
        refine hK.out _ _ ?_ (fun hHeld => ?_)
        · with_reducible exact (x3.out)
        clear hK K
        try simp only [Act.put, List.setIfInBounds_toArray, List.set_cons_zero, List.set_cons_succ, List.getElem_toArray, List.getElem_cons_succ, List.getElem_cons_zero]
        refine wpAnyH_ready (rs := [11]) (by kernel_rfl) (by simp) (AllReadyH.cons rfl (fun K hK => ?_) AllReadyH.nil)
        go_simp
        go_wp2_with fail
        refine hK.out _ _ ?_ (fun hHeld => ?_)
        · exact (Below.heap_setCell W3 _ _ _ hbn).trans x3.out
        clear hK K
        try simp only [Act.put, List.setIfInBounds_toArray, List.set_cons_zero, List.set_cons_succ, List.getElem_toArray, List.getElem_cons_succ, List.getElem_cons_zero]
        refine wpAnyH_done (by kernel_rfl) ?_ _
        go_wp2_with fail
        go_ret
        exact ⟨rfl, Lib.hid (Chg.from_ HB0.out HG3.out)⟩
end
end Go.Proofs.Ytlejlmlgcehjiaa
