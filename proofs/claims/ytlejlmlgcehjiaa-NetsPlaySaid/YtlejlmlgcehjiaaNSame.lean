/-
  SameEntries, SameMail, SameAll at what reads alike.
-/
import Derived.Test.YtlejlmlgcehjiaaNAll
import Derived.BigQuiet
import Derived.WalkSmall
namespace Go.Proofs.Ytlejlmlgcehjiaa
open Go.RowKit
/-- Nothing that lies in memory has changed. -/
def Still (w w' : World) : Prop := ∀ B, Below B w w'
theorem Still.refl (w : World) : Still w w := fun B => Below.refl B w
theorem Still.drewN {w w' : World} (h : Still w w') (n : Nat) : Still w (w'.drewN n) := fun B => ⟨(h B).os, (h B).tape, (h B).output, (h B).size, (h B).block⟩
theorem Still.cell {w w' : World} (h : Still w w') (a : Addr) : w'.cell? a = w.cell? a := (h (a.block + 1)).cell (by omega)
theorem Ents.cells {w : World} {v : Value} {es : List Net.Ent} (h : Ents w v es) {k : Nat} (hk : k < es.length) : ∃ b o c, v = .slice (some ⟨b, o, none⟩) es.length c ∧ es.length ≤ c ∧
    (w.cell? ⟨b, o + k * 6, none⟩ = some (.int .i64 es[k].ep) ∧ w.cell? ⟨b, o + k * 6 + 1, none⟩ = some (.int .i64 es[k].oi) ∧ w.cell? ⟨b, o + k * 6 + 2, none⟩ = some (.int .i64 es[k].os) ∧ w.cell? ⟨b, o + k * 6 + 3, none⟩ = some (.int .i64 es[k].ox) ∧ w.cell? ⟨b, o + k * 6 + 4, none⟩ = some (.int .i64 es[k].ok) ∧ w.cell? ⟨b, o + k * 6 + 5, none⟩ = some (.int .i64 es[k].oa)) := by
  obtain ⟨A, c, rfl, h1, _, _, h4⟩ := h
  obtain ⟨b, o, rfl, _, hc⟩ := h4 (by omega)
  refine ⟨b, o, c, rfl, h1, ?_, ?_, ?_, ?_, ?_, ?_⟩
  · exact hc (k * 6) _ (by rw [show k * 6 = k * 6 + 0 from rfl, ecs_at es hk (by omega)]; rfl)
  · exact hc (k * 6 + 1) _ (by rw [ecs_at es hk (by omega)]; rfl)
  · exact hc (k * 6 + 2) _ (by rw [ecs_at es hk (by omega)]; rfl)
  · exact hc (k * 6 + 3) _ (by rw [ecs_at es hk (by omega)]; rfl)
  · exact hc (k * 6 + 4) _ (by rw [ecs_at es hk (by omega)]; rfl)
  · exact hc (k * 6 + 5) _ (by rw [ecs_at es hk (by omega)]; rfl)
set_option maxRecDepth 100000 in
set_option maxHeartbeats 1000000 in
theorem sameEntries_any {va vb : Value} {es : List Net.Ent} {w : World} (ha : Ents w va es) (hb : Ents w vb es) : Calls Try.prog 14 #[va, vb] w fun e w' => e = .returned (.bool true) ∧ Below w.heap.size w w' := by
  have HA := Lib.hid ha
  have HB := Lib.hid hb
  have HCA := Lib.hid (fun k hk => ha.cells (k := k) hk)
  have HCB := Lib.hid (fun k hk => hb.cells (k := k) hk)
  obtain ⟨A, ca, rfl, h1, h2, h3⟩ := ha.len
  obtain ⟨A', cb, rfl, h1', h2', h3'⟩ := hb.len
  have hl : es.length ≤ maxLen := by omega
  unfold maxLen at hl
  clear ha hb h3 h3' h2 h2' HA HB
  go_enter Try.func14, Try.ntmps14
  go_wp2
  go_loopw [5] (fun i wr => ∃ k : Nat, k ≤ es.length ∧ i = .int .i64 k ∧ Still w wr) (fun i _ => es.length - (intOf i).toNat)
  case atStart => exact ⟨0, Nat.zero_le _, rfl, Still.refl _⟩
  case round =>
    obtain ⟨k, hk, rfl, hst⟩ := hrel
    by_cases hlt : k < es.length
    · obtain ⟨b1, o1, c1, hv1, _, x0, x1, x2, x3, x4, x5⟩ := HCA.out k hlt
      obtain ⟨b2, o2, c2, hv2, _, y0, y1, y2, y3, y4, y5⟩ := HCB.out k hlt
      injection hv1 with e1 _ e3
      injection hv2 with e2 _ e4
      subst e1 e2 e3 e4
      have x0 := (hst.cell ⟨b1, o1 + k * 6, none⟩).trans x0
      have x1 := (hst.cell ⟨b1, o1 + k * 6 + 1, none⟩).trans x1
      have x2 := (hst.cell ⟨b1, o1 + k * 6 + 2, none⟩).trans x2
      have x3 := (hst.cell ⟨b1, o1 + k * 6 + 3, none⟩).trans x3
      have x4 := (hst.cell ⟨b1, o1 + k * 6 + 4, none⟩).trans x4
      have x5 := (hst.cell ⟨b1, o1 + k * 6 + 5, none⟩).trans x5
      have y0 := (hst.cell ⟨b2, o2 + k * 6, none⟩).trans y0
      have y1 := (hst.cell ⟨b2, o2 + k * 6 + 1, none⟩).trans y1
      have y2 := (hst.cell ⟨b2, o2 + k * 6 + 2, none⟩).trans y2
      have y3 := (hst.cell ⟨b2, o2 + k * 6 + 3, none⟩).trans y3
      have y4 := (hst.cell ⟨b2, o2 + k * 6 + 4, none⟩).trans y4
      have y5 := (hst.cell ⟨b2, o2 + k * 6 + 5, none⟩).trans y5
      have hii : (k : Int) < (es.length : Int) := by omega
      clear HCA HCB
      generalize es[k] = ee at *
      obtain ⟨z0, z1, z2, z3, z4, z5⟩ := ee
      dsimp only at x0 x1 x2 x3 x4 x5 y0 y1 y2 y3 y4 y5
      go_wp2
      go_quiet (fail)
      go_wp2
      go_roundw
      case rel => exact ⟨k + 1, by omega, by go_num, hst.drewN _⟩
      case measure => simp [intOf]; omega
    · go_wp2
      go_ret
      exact ⟨rfl, hst _⟩
set_option maxRecDepth 100000 in
set_option maxHeartbeats 2000000 in
theorem sameMail_any (hd : Net.Hd) {va vb : Value} {es : List Net.Ent} {w : World} (ha : Ents w va es) (hb : Ents w vb es) : Calls Try.prog 13 #[.agg (mcells hd va).toArray, .agg (mcells hd vb).toArray] w fun e w' => e = .returned (.bool true) ∧ Below w.heap.size w w' := by
  obtain ⟨W, hW⟩ : ∃ W, W = (w.alloc (.cells (mcells hd va).toArray 36)).alloc (.cells (mcells hd vb).toArray 36) := ⟨_, rfl⟩
  have hb0 : Below w.heap.size w W := by rw [hW]; exact ((Below.refl _ _).alloc (Nat.le_refl _) _).alloc (by simp) _
  have hsz : (w.alloc (.cells (mcells hd va).toArray 36)).heap.size = w.heap.size + 1 := by simp
  have n1 : W.heap[w.heap.size]? = some (.cells (mcells hd va).toArray 36 (0, 0)) := by rw [hW]; exact heap_alloc2_old w _ _
  have n2 : W.heap[w.heap.size + 1]? = some (.cells (mcells hd vb).toArray 36 (0, 0)) := by rw [hW]; exact heap_alloc2_new w _ _
  have hwz : W.heap.size = w.heap.size + 2 := by rw [hW]; simp
  have HSE := Lib.hid (sameEntries_any (ha.below hb0) (hb.below hb0))
  have HC := Lib.hid (fun X (h : Below W.heap.size W X) => And.intro (mail_cells ((h.block w.heap.size (by omega)).trans n1)) (mail_cells ((h.block (w.heap.size + 1) (by omega)).trans n2)))
  have HW := Lib.hid hW.symm
  have HB0 := Lib.hid hb0
  have HWZ := Lib.hid hwz
  obtain ⟨ki, fr, tt, st, ep, vi, ba, le, sp, oi, os, ox, ok, oa, ai, ac, av⟩ := hd
  obtain ⟨p, q⟩ := HC.out W (Below.refl _ _)
  unfold mcells at *
  have p0 := p 0
  have p1 := p 1
  have p2 := p 2
  have p3 := p 3
  have p4 := p 4
  have p5 := p 5
  have p6 := p 6
  have p7 := p 7
  have p8 := p 8
  have p9 := p 9
  have q0 := q 0
  have q1 := q 1
  have q2 := q 2
  have q3 := q 3
  have q4 := q 4
  have q5 := q 5
  have q6 := q 6
  have q7 := q 7
  have q8 := q 8
  have q9 := q 9
  clear p q hW hb0 n1 n2 hwz ha hb
  simp only [List.getElem?_cons_zero, List.getElem?_cons_succ] at p0 p1 p2 p3 p4 p5 p6 p7 p8 p9 q0 q1 q2 q3 q4 q5 q6 q7 q8 q9
  go_enter Try.func13, Try.ntmps13
  go_wp2_with (first | rw [HW.out] | rw [hsz])
  refine HSE.out.mono ?_
  rintro e W1 ⟨rfl, HB1⟩
  obtain ⟨p, q⟩ := HC.out W1 HB1
  have r0 := p 10
  have r1 := p 11
  have r2 := p 12
  have r3 := p 13
  have r4 := p 14
  have r5 := p 15
  have r6 := p 16
  have r7 := p 17
  have s0 := q 10
  have s1 := q 11
  have s2 := q 12
  have s3 := q 13
  have s4 := q 14
  have s5 := q 15
  have s6 := q 16
  have s7 := q 17
  have HB2 := Lib.hid (HB0.out.trans (HB1.mono HB0.out.size))
  clear p q p0 p1 p2 p3 p4 p5 p6 p7 p8 p9 q0 q1 q2 q3 q4 q5 q6 q7 q8 q9 HB1
  simp only [List.getElem?_cons_zero, List.getElem?_cons_succ] at r0 r1 r2 r3 r4 r5 r6 r7 s0 s1 s2 s3 s4 s5 s6 s7
  go_wp2
  go_ret
  exact ⟨rfl, HB2.out⟩
/-- A slice of messages that reads so, whosever it is. -/
def MRead (w : World) (v : Value) (ms : List MM) : Prop := ∃ A c, v = .slice A ms.length c ∧ ms.length ≤ c ∧ c ≤ maxLen ∧ (0 < ms.length → ∃ b o, A = some ⟨b, o, none⟩ ∧ b < w.heap.size ∧ ∀ i (h : i < ms.length), ∀ j, j < 18 → w.cell? ⟨b, o + i * 18 + j, none⟩ = (mcells ms[i].h ms[i].v)[j]?) ∧ ∀ m ∈ ms, Ents w m.v m.es
theorem MRead.below {w w' : World} {v : Value} {ms : List MM} (h : MRead w v ms) (hb : Below w.heap.size w w') : MRead w' v ms := by
  obtain ⟨A, c, rfl, h1, h2, h3, h4⟩ := h
  refine ⟨A, c, rfl, h1, h2, fun h0 => ?_, fun m hm => (h4 m hm).below hb⟩
  obtain ⟨b, o, rfl, hl, hc⟩ := h3 h0
  exact ⟨b, o, rfl, Nat.lt_of_lt_of_le hl hb.size, fun i hi j hj => (hb.cell (p := ⟨b, o + i * 18 + j, none⟩) hl).trans (hc i hi j hj)⟩
theorem Mails.read {w : World} {v : Value} {ms : List MM} (h : Mails w v ms) : MRead w v ms := by
  obtain ⟨A, c, e, h1, h2, h3⟩ := h.len
  refine ⟨A, c, e, h1, h2, fun h0 => ?_, fun m hm => (h.own m hm).ents⟩
  obtain ⟨g, c', e', _, _, hg, hc, _⟩ := h.at_ h0
  rw [e] at e'
  injection e' with e1 _ _
  refine ⟨g, 0, e1, hg, fun i hi j hj => ?_⟩
  obtain ⟨g2, c2, e2, _, _, _, hc2, _⟩ := h.at_ hi
  rw [e] at e2
  injection e2 with e3 _ _
  rw [e1] at e3
  injection e3 with e3
  injection e3 with e3
  rw [Nat.zero_add, e3]
  exact hc2 j hj
set_option maxRecDepth 100000 in
set_option maxHeartbeats 1000000 in
theorem sameAll_any {va vb : Value} {ms ms' : List MM} {w : World} (ha : MRead w va ms) (hb : MRead w vb ms') (he : ms.map MM.ml = ms'.map MM.ml) : Calls Try.prog 18 #[va, vb] w fun e w' => e = .returned (.bool true) ∧ Below w.heap.size w w' := by
  have hln : ms.length = ms'.length := by simpa using congrArg List.length he
  have HA := Lib.hid ha
  have HB := Lib.hid hb
  obtain ⟨A, ca, rfl, h1, h2, h3, h4⟩ := ha
  obtain ⟨A', cb, rfl, h1', h2', h3', h4'⟩ := hb
  have hl : ms.length ≤ maxLen := by omega
  unfold maxLen at hl
  have HEQ : Hid (∀ k (h : k < ms.length) (h' : k < ms'.length), ms[k].h = ms'[k].h ∧ ms[k].es = ms'[k].es) := fun k hk hk' => by
    have h1 : (ms.map MM.ml)[k]? = (ms'.map MM.ml)[k]? := by rw [he]
    rw [List.getElem?_map, List.getElem?_map, List.getElem?_eq_getElem hk, List.getElem?_eq_getElem hk'] at h1
    have h2 := Option.some.inj h1
    exact ⟨congrArg Net.Ml.h h2, congrArg Net.Ml.es h2⟩
  have H3 := Lib.hid h3
  have H3' := Lib.hid h3'
  have H4 := Lib.hid h4
  have H4' := Lib.hid h4'
  have HLN := Lib.hid hln
  rw [← hln]
  clear h3 h3' h4 h4' h2 h2' he HA HB hln h1' h1
  go_enter Try.func18, Try.ntmps18
  go_wp2
  go_loopw [5] (fun i wr => ∃ k : Nat, k ≤ ms.length ∧ i = .int .i64 k ∧ Below w.heap.size w wr) (fun i _ => ms.length - (intOf i).toNat)
  case atStart => exact ⟨0, Nat.zero_le _, rfl, Below.refl _ _⟩
  case round =>
    obtain ⟨k, hk, rfl, hb⟩ := hrel
    by_cases hlt : k < ms.length
    · obtain ⟨b1, o1, rfl, g1, hc1⟩ := H3.out (by omega)
      obtain ⟨b2, o2, rfl, g2, hc2⟩ := H3'.out (by have := HLN.out; omega)
      have hlt' : k < ms'.length := by have := HLN.out; omega
      have hc1 := hc1 k hlt
      have hc2 := hc2 k hlt'
      have e1 := H4.out _ (List.getElem_mem hlt)
      have e2 := H4'.out _ (List.getElem_mem hlt')
      obtain ⟨q1, q2⟩ := HEQ.out k hlt hlt'
      rw [← q1] at hc2
      rw [← q2] at e2
      clear q1 q2
      generalize ms[k] = m at *
      generalize ms'[k] = m' at *
      have hbd : Below w.heap.size w wr.drew := hb.trans ((Below.refl _ _).drew)
      have HSM := Lib.hid (sameMail_any m.h ((e1.below hbd)) ((e2.below hbd)))
      have HSS := Lib.hid (fun X (h : Below wr.drew.heap.size wr.drew X) => (And.intro (fun j hj => ((hbd.trans (h.mono hbd.size)).cell (p := ⟨b1, o1 + k * 18 + j, none⟩) g1).trans (hc1 j hj)) (fun j hj => ((hbd.trans (h.mono hbd.size)).cell (p := ⟨b2, o2 + k * 18 + j, none⟩) g2).trans (hc2 j hj)) : (∀ j, j < 18 → X.cell? ⟨b1, o1 + k * 18 + j, none⟩ = (mcells m.h m.v)[j]?) ∧ ∀ j, j < 18 → X.cell? ⟨b2, o2 + k * 18 + j, none⟩ = (mcells m.h m'.v)[j]?))
      have HBD := Lib.hid hbd
      have hii : (k : Int) < (ms.length : Int) := by omega
      have hk63 : k ≤ 9223372036854775806 := by omega
      clear hc1 hc2 e1 e2 hbd HEQ H3 H3' H4 H4' hlt'
      go_wp2
      refine wp_region_held_drew (S := fun X => (∀ j, j < 18 → X.cell? ⟨b1, o1 + k * 18 + j, none⟩ = (mcells m.h m.v)[j]?) ∧ ∀ j, j < 18 → X.cell? ⟨b2, o2 + k * 18 + j, none⟩ = (mcells m.h m'.v)[j]?) (by kernel_rfl) (HSS.out _ (Below.refl _ _)) (fun hS0 => ?_)
      refine wpAnyH_take (i := 0) (v := ?_) rfl (by kernel_rfl) (by kernel_rfl) (by kernel_rfl) (fun _ _ _ h => h) (Or.inl ⟨by rfl, ?_⟩) (by assumption) ?_
      rotate_left
      · intro X hX
        go_simp
        try with_reducible rfl
      try simp only [Act.put, List.setIfInBounds_toArray, List.set_cons_zero, List.set_cons_succ, List.getElem_toArray, List.getElem_cons_zero]
      refine wpAnyH_take (i := 1) (v := ?_) rfl (by kernel_rfl) (by kernel_rfl) (by kernel_rfl) (fun _ _ _ h => h) (Or.inl ⟨by rfl, ?_⟩) (by assumption) ?_
      rotate_left
      · intro X hX
        go_simp
        try with_reducible rfl
      try simp only [Act.put, List.setIfInBounds_toArray, List.set_cons_zero, List.set_cons_succ, List.getElem_toArray, List.getElem_cons_succ, List.getElem_cons_zero]
      refine wpAnyH_take (i := 2) (v := ?_) rfl (by kernel_rfl) (by kernel_rfl) (by kernel_rfl) (fun _ _ _ h => h) (Or.inl ⟨by rfl, ?_⟩) (by assumption) ?_
      rotate_left
      · intro X hX
        go_simp
        try with_reducible rfl
      try simp only [Act.put, List.setIfInBounds_toArray, List.set_cons_zero, List.set_cons_succ, List.getElem_toArray, List.getElem_cons_succ, List.getElem_cons_zero]
      refine wpAnyH_take (i := 3) (v := .agg (mcells m.h m.v).toArray) rfl (by kernel_rfl) (by kernel_rfl) (by kernel_rfl) (fun _ _ _ h => h) (Or.inl ⟨by rfl, ?_⟩) (by assumption) ?_
      · intro X hX
        exact run_exec_load 36 (.tmp 19) rfl ⟨b1, o1 + k * 18, none⟩ rfl (run_load_mail hX.1)
      try simp only [Act.put, List.setIfInBounds_toArray, List.set_cons_zero, List.set_cons_succ, List.getElem_toArray, List.getElem_cons_succ, List.getElem_cons_zero]
      refine wpAnyH_take (i := 4) (v := ?_) rfl (by kernel_rfl) (by kernel_rfl) (by kernel_rfl) (fun _ _ _ h => h) (Or.inl ⟨by rfl, ?_⟩) (by assumption) ?_
      rotate_left
      · intro X hX
        go_simp
        try with_reducible rfl
      try simp only [Act.put, List.setIfInBounds_toArray, List.set_cons_zero, List.set_cons_succ, List.getElem_toArray, List.getElem_cons_succ, List.getElem_cons_zero]
      refine wpAnyH_take (i := 5) (v := ?_) rfl (by kernel_rfl) (by kernel_rfl) (by kernel_rfl) (fun _ _ _ h => h) (Or.inl ⟨by rfl, ?_⟩) (by assumption) ?_
      rotate_left
      · intro X hX
        go_simp
        try with_reducible rfl
      try simp only [Act.put, List.setIfInBounds_toArray, List.set_cons_zero, List.set_cons_succ, List.getElem_toArray, List.getElem_cons_succ, List.getElem_cons_zero]
      refine wpAnyH_take (i := 6) (v := ?_) rfl (by kernel_rfl) (by kernel_rfl) (by kernel_rfl) (fun _ _ _ h => h) (Or.inl ⟨by rfl, ?_⟩) (by assumption) ?_
      rotate_left
      · intro X hX
        go_simp
        try with_reducible rfl
      try simp only [Act.put, List.setIfInBounds_toArray, List.set_cons_zero, List.set_cons_succ, List.getElem_toArray, List.getElem_cons_succ, List.getElem_cons_zero]
      refine wpAnyH_take (i := 7) (v := .agg (mcells m.h m'.v).toArray) rfl (by kernel_rfl) (by kernel_rfl) (by kernel_rfl) (fun _ _ _ h => h) (Or.inl ⟨by rfl, ?_⟩) (by assumption) ?_
      · intro X hX
        exact run_exec_load 36 (.tmp 23) rfl ⟨b2, o2 + k * 18, none⟩ rfl (run_load_mail hX.2)
      try simp only [Act.put, List.setIfInBounds_toArray, List.set_cons_zero, List.set_cons_succ, List.getElem_toArray, List.getElem_cons_succ, List.getElem_cons_zero]
      refine wpAnyH_ready (rs := [8]) (by kernel_rfl) (by simp) (AllReadyH.cons rfl (fun K hK => ?_) AllReadyH.nil)
      go_simp
      refine HSM.out.mono ?_
      rintro e W1 ⟨rfl, HB1⟩
      go_wp2_with fail
      refine hK.out _ _ ?_ (fun hHeld => ?_)
      · with_reducible exact (HSS.out _ HB1)
      clear hK K
      try simp only [Act.put, List.setIfInBounds_toArray, List.set_cons_zero, List.set_cons_succ, List.getElem_toArray, List.getElem_cons_succ, List.getElem_cons_zero]
      skip
      refine wpAnyH_take (i := 9) (v := ?_) rfl (by kernel_rfl) (by kernel_rfl) (by kernel_rfl) (fun _ _ _ h => h) (Or.inl ⟨by rfl, ?_⟩) (by assumption) ?_
      rotate_left
      · intro X hX
        go_simp
        try with_reducible rfl
      try simp only [Act.put, List.setIfInBounds_toArray, List.set_cons_zero, List.set_cons_succ, List.getElem_toArray, List.getElem_cons_succ, List.getElem_cons_zero]
      refine wpAnyH_done (by kernel_rfl) ?_ _
      go_wp2
      go_roundw
      case rel => exact ⟨k + 1, by omega, by go_num, HBD.out.trans (HB1.mono HBD.out.size)⟩
      case measure => simp [intOf]; omega
    · go_wp2
      go_ret
      exact ⟨rfl, hb⟩
end Go.Proofs.Ytlejlmlgcehjiaa
