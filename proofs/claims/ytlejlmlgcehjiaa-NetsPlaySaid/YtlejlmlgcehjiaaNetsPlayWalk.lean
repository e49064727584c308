/-
  The walk of the law NetsPlay.
-/
import Derived.Test.YtlejlmlgcehjiaaNMade
import Derived.Test.YtlejlmlgcehjiaaNLeft
import Derived.Test.YtlejlmlgcehjiaaRows
namespace Go.Proofs.Ytlejlmlgcehjiaa.netsPlayW
open Go.RowKit
theorem box_act (W : World) (x : AV) : ∃ W2, (storeVar 38 ⟨W.heap.size, 0, none⟩ (.agg (acells x).toArray)).run Try.prog (W.alloc (.cells #[.int .u8 0, .int .i64 0, .int .i64 0, .int .i64 0, .int .i64 0, .int .i64 0, .int .i64 0, .int .i64 0, .int .i64 0, .int .i64 0, .slice none 0 0, .int .i64 0, .int .i64 0, .int .i64 0, .int .i64 0, .int .i64 0, .int .i64 0, .int .i64 0, .int .i64 0, .int .i64 0] 38)) = .ok () W2 ∧ W2.heap[W.heap.size]? = some (.cells (acells x).toArray 38 (0, 0)) ∧ Below W.heap.size W W2 := by
  have hx := heap_alloc_new W (.cells #[.int .u8 0, .int .i64 0, .int .i64 0, .int .i64 0, .int .i64 0, .int .i64 0, .int .i64 0, .int .i64 0, .int .i64 0, .int .i64 0, .slice none 0 0, .int .i64 0, .int .i64 0, .int .i64 0, .int .i64 0, .int .i64 0, .int .i64 0, .int .i64 0, .int .i64 0, .int .i64 0] 38)
  have hst := run_storeVar_row (P := Try.prog) _ W.heap.size 38 38 _ (acells x).toArray hx (by kernel_rfl) rfl (by simp [acells, mcells, AV.v, Value.oneCell'])
  exact ⟨_, hst, setRow_heap _ _ _ _ _ _ hx, (below_alloc1 W _).trans ((Foot.row (fun k => k = W.heap.size) _ _ _ rfl).below fun k hk => ⟨by simp; omega, by omega⟩)⟩
theorem load_act {X : World} {b : Nat} {x : AV} (hb : X.heap[b]? = some (.cells (acells x).toArray 38 (0, 0))) : (loadVar 38 ⟨b, 0, none⟩).run Try.prog X = .ok (.agg (acells x).toArray) X :=
  run_load_act (o := 0) fun j hj => by rw [act_cells hb, Nat.zero_add]
/-- The message's entries in a row of the law's own, one more behind them. -/
def Laid (w1 : World) (n r : Nat) (M : List Net.Ml) (bx g2 c2 : Nat) (xk : Int) (xh : Net.Hd) (xes : List Net.Ent) (xi : Int) (X : World) : Prop :=
  Two w1 n r M M (fun k => k = bx ∨ k = g2) X ∧ X.heap[bx]? = some (.cells (acells ⟨xk, xh, some ⟨g2, 0, none⟩, c2, xes, xi⟩).toArray 38 (0, 0)) ∧ EOwn X 0 (.slice (some ⟨g2, 0, none⟩) xes.length c2) xes ∧ X.cell? ⟨g2, xes.length * 6, none⟩ = some (.int .i64 (-70)) ∧ xes.length + 1 ≤ c2 ∧ c2 ≤ maxLen ∧ bx ≠ g2
theorem laid_any {w1 w3 V : World} {n r bx g2 c2 xc : Nat} {M : List Net.Ml} {xk : Int} {xh : Net.Hd} {xa : Option Addr} {xes : List Net.Ent} {xi : Int} (h : Two w1 n r M M (fun k => k = bx) w3) (hk : w3.heap[bx]? = some (.cells (acells ⟨xk, xh, xa, xc, xes, xi⟩).toArray 38 (0, 0)))
    (hV : Below w3.heap.size w3 V) (ho : V.ownsRow w3.heap.size 40 6 (.slice (some ⟨g2, 0, none⟩) (xes.length + 1) c2) (xes.length + 1) ([] ++ ecs xes ++ ecs [e70])) : Laid w1 n r M bx g2 c2 xk xh xes xi (V.setCell ⟨bx, 10, none⟩ (.slice (some ⟨g2, 0, none⟩) xes.length c2)) := by
  rw [List.nil_append] at ho
  have hg := World.ownsRow.lt ho g2 rfl
  obtain ⟨q1, q2, q3, q4⟩ := cut_last ho
  have hbx := lt_of_block hk
  have hg1 : w3.heap.size ≤ g2 := hg.1
  have hkV := (hV.block bx hbx).trans hk
  have hne : bx ≠ g2 := by omega
  have hf : Foot (fun k => k = bx) V (V.setCell ⟨bx, 10, none⟩ (.slice (some ⟨g2, 0, none⟩) xes.length c2)) := Foot.set (fun k => k = bx) V _ _ rfl
  refine ⟨(h.more hV fun k hk => ?_).write hf fun k hk => .inl hk, ?_, (q1.base (Nat.zero_le _)).foot hf fun k e e2 => ?_, (hf.cell (p := ⟨g2, xes.length * 6, none⟩) hg.2 (fun e => hne e.symm)).trans q2, q3, q4, hne⟩
  · rcases hk with e | e
    · exact .inl e
    · exact .inr (by rw [e]; exact hg)
  · rw [setCell_eq_setRow V bx 10 _ _ _ _ hkV, setRow_heap V bx _ _ _ _ hkV]; rfl
  · have e1 : g2 = k := Option.some.inj e
    have e3 : k = bx := e2
    omega
theorem own_same {X Y : World} {base n : Nat} {v : Value} {xs : List Value} (h : X.ownsRow base 40 6 v n xs) (hb : ∀ k, v.ownBlock = some k → Y.heap[k]? = X.heap[k]?) : Y.ownsRow base 40 6 v n xs := by
  obtain ⟨h0, h | ⟨g, cap, cur, rfl, q1, q2, q3⟩⟩ := h
  · exact ⟨h0, .inl h⟩
  · exact ⟨h0, .inr ⟨g, cap, cur, rfl, q1, (hb g rfl).trans q2, q3⟩⟩
theorem cell_same {X Y : World} {g o : Nat} (h : Y.heap[g]? = X.heap[g]?) : Y.cell? ⟨g, o, none⟩ = X.cell? ⟨g, o, none⟩ := by
  simp only [World.cell?, h]
theorem run_exec_load {P : Program} {ev : Operand → Value} {o : Oper} {X : World} {v : Value} (ty : TypeId) (x : Operand) (ho : o.op = .load ty x) (a : Addr) (hx : ev x = .pointer (some a)) (hr : (loadVar ty a).run P X = .ok v X) : (execOp ev o).run P X = .ok (Next.value v) X := by
  simp only [execOp, ho, hx, Instr.loadAt, Instr.sureAddr, Sem.run_bind, Sem.run_pure, Result.andThen_ok, hr]
theorem load_ml {X : World} {g : Nat} {h : Net.Hd} {v : Value} (hb : X.heap[g]? = some (.cells (mcells h v).toArray 36 (0, 0))) : (loadVar 36 ⟨g, 0, none⟩).run Try.prog X = .ok (.agg (mcells h v).toArray) X :=
  run_load_mail (o := 0) fun j hj => by rw [Nat.zero_add, Lib.cell_of_heap hb]; simp
theorem lt_of_cell {X : World} {g o : Nat} {v : Value} (h : X.cell? ⟨g, o, none⟩ = some v) : g < X.heap.size := by
  rcases Nat.lt_or_ge g X.heap.size with hl | hl
  · exact hl
  · simp [World.cell?, Array.getElem?_eq_none hl] at h
def noU : Nat → Prop := fun _ => False
set_option maxRecDepth 100000 in
set_option maxHeartbeats 20000000 in
theorem walk (v : Value) (l : List AV) (w : World) (h : ARead w v l) (hk : ∀ x ∈ l, 0 ≤ x.k) : Calls Try.prog 3 #[v] w fun e w' => e = .returned (.bool true) ∧ Below w.heap.size w w' := by
  have HG := Lib.hid (great_any h)
  have HA := Lib.hid h
  have HK := Lib.hid hk
  obtain ⟨A, c, rfl, hc1, hc2, hc3⟩ := h
  clear hk hc3 hc1 hc2
  go_enter Try.func3, Try.ntmps3
  go_wp2_with fail
  refine HG.out.mono ?_
  rintro e w1 ⟨b, rfl, hs, hb1⟩
  clear HG
  cases b with
  | true =>
    go_wp2_with fail
    go_ret
    exact ⟨rfl, hb1⟩
  | false =>
    have HS := Lib.hid (hs rfl)
    have HB1 := Lib.hid hb1
    have HR : Hid (ARead w1 (.slice A l.length c) l) := HA.out.below hb1
    have hl8 : l.length ≤ 800 := HS.out.2
    clear hs hb1 HA
    go_wp2_with fail
    refine (on_new w1).mono ?_
    rintro e w2 ⟨n, S, rfl, H, HBN, HSN⟩
    have H0 : Hid (Two w1 n w2.heap.size [] [] noU (w2.alloc (.cells #[.slice none 0 0] 29))) := Two.made H.out HBN.out
    clear H HBN HSN
    go_wp2_with fail
    generalize w2.heap.size = r at *
    go_loopg [5] l.length (fun kx s5 wr => ∃ (i : Nat) (M : List Net.Ml), i ≤ l.length ∧ s5 = .int .i64 (i : Int) ∧ l.length - i ≤ kx ∧ Hid (Two w1 n r M M noU wr))
    case atStart => exact ⟨0, [], Nat.zero_le _, rfl, by omega, H0⟩
    case round =>
      obtain ⟨i, M, hil, rfl, hik, HO⟩ := hrel
      clear H0
      by_cases hlt : i < l.length
      · obtain ⟨A0, c0, hv, hv3, hv4, hcl, hEn⟩ := HR.out
        injection hv with hv1 _ hv2
        subst hv1 hv2
        obtain ⟨b, o, rfl, hbl, hcells⟩ := hcl (by omega)
        have hcx := hcells i hlt
        have hEx := hEn _ (List.getElem_mem hlt)
        have hkx := HK.out _ (List.getElem_mem hlt)
        have hlx := HS.out.1 _ (List.getElem_mem hlt)
        have hlk : (i : Int) < (l.length : Int) := by omega
        clear hcells hEn hcl hv3 hv4
        generalize l[i] = x at *
        obtain ⟨xk, xh, xa, xc, xes, xi⟩ := x
        have hEx : Ents w1 (.slice xa xes.length xc) xes := hEx
        have hlx : xes.length ≤ 4000 := hlx
        have hkx : 0 ≤ xk := hkx
        have hOB := HO.out.bel
        have HLDX := Lib.hid (fun X (hX : Below w1.heap.size w1 X) => run_load_act (W := X) (g := b) (o := o + i * 20) (x := ⟨xk, xh, xa, xc, xes, xi⟩) fun j hj => (hX.cell (p := ⟨b, o + i * 20 + j, none⟩) hbl).trans (hcx j hj))
        have HCX := Lib.hid (fun X (hX : Below w1.heap.size w1 X) => ((hX.cell (p := ⟨b, o + i * 20 + 10, none⟩) hbl).trans (hcx 10 (by decide)) : X.cell? ⟨b, o + i * 20 + 10, none⟩ = some (.slice xa xes.length xc)))
        have HLD := Lib.hid (HLDX.out wr hOB)
        obtain ⟨w3, st3, k3, b3⟩ := box_act wr ⟨xk, xh, xa, xc, xes, xi⟩
        have hbx := lt_of_block k3
        have hwx : w1.heap.size ≤ wr.heap.size := hOB.size
        have ST3 := Lib.hid st3
        have HX1 : Hid (Below w1.heap.size w1 w3) := hOB.trans (b3.mono hOB.size)
        have H3 : Hid (Two w1 n r M M (fun k => k = wr.heap.size) w3) := HO.out.more b3 (fun k hk => .inr (by rw [hk]; exact ⟨Nat.le_refl _, hbx⟩))
        have HEX := Lib.hid hEx
        have HB3 := Lib.hid b3
        have HK3 := Lib.hid k3
        clear hcx hEx hOB st3 b3 HO k3
        go_wp2_with (first | (refine wpList_load_run rfl 38 _ rfl ⟨b, o + i * 20, none⟩ rfl HLD.out ?_) | (refine wpList_store_run rfl 38 _ _ rfl ⟨wr.heap.size, 0, none⟩ _ rfl rfl ST3.out ?_))
        go_upto_region 8 with fail
        have hmk : ∀ X, (Instr.makeSlice 30 (.int .i64 0) (.int .i64 ((xes.length : Int) + 1))).run Try.prog X = .ok (.slice (some ⟨X.heap.size, 0, none⟩) 0 (xes.length + 1)) (X.alloc (.cells (ezs (xes.length + 1)) 40)) := fun X => emade_run X (xes.length + 1) (by omega)
        have hwr : IntKind.i64.wrap ((xes.length : Int) + 1) = (xes.length : Int) + 1 := IntWalk.i64_in _ (by omega)
        generalize wr.heap.size = bx at *
        have k10 : w3.cell? ⟨bx, 10, none⟩ = some (.slice xa xes.length xc) := by rw [act_cells HK3.out]; rfl
        have HBV := Lib.hid (fun X (h : Below w3.heap.size w3 X) => And.intro ((h.cell (p := ⟨bx, 10, none⟩) hbx).trans k10) (frozen_of_row X bx 10 _ _ ((h.block bx hbx).trans HK3.out)))
        have IK := Lib.hid (fun X (h : Below w3.heap.size w3 X) => (HEX.out.below (HX1.out.trans (h.mono HX1.out.size)) : Ents X (.slice xa xes.length xc) xes))
        go_cut [6] (fun s6 wx => s6 = .pointer (some ⟨bx, 0, none⟩) ∧ ∃ g2 c2, Hid (Laid w1 n r M bx g2 c2 xk xh xes xi wx))
        case first =>
          have hQ : Below w3.heap.size w3 w3.drew := (Below.refl _ _).drew
          have hX := (HBV.out _ hQ).1
          refine wp_region_last (S := fun X => X.cell? ⟨bx, 10, none⟩ = some (.slice xa xes.length xc)) (by kernel_rfl) hX (fun hS0 => ?_)
          clear hX hS0
          refine wpAnyL_take (i := 0) (k := 1) (v := ?_) rfl rfl (by decide) (by kernel_rfl) (by kernel_rfl) (by kernel_rfl) (by kernel_rfl) (by kernel_rfl) (by kernel_rfl) (fun _ _ _ h => h) (Or.inl ⟨by rfl, ?_⟩) (by assumption) ?_
          rotate_left
          · intro X hX
            go_simp
            try with_reducible rfl
          try simp only [List.getElem_toArray, List.getElem_cons_zero]
          try simp only [Act.put, List.setIfInBounds_toArray, List.set_cons_zero, List.set_cons_succ]
          refine wpAnyL_take (i := 1) (k := 2) (v := ?_) rfl rfl (by decide) (by kernel_rfl) (by kernel_rfl) (by kernel_rfl) (by kernel_rfl) (by kernel_rfl) (by kernel_rfl) (fun _ _ _ h => h) (Or.inl ⟨by rfl, ?_⟩) (by assumption) ?_
          rotate_left
          · intro X hX
            go_simp
            try with_reducible rfl
          try simp only [List.getElem_toArray, List.getElem_cons_succ, List.getElem_cons_zero]
          try simp only [Act.put, List.setIfInBounds_toArray, List.set_cons_zero, List.set_cons_succ]
          refine wpAnyL_take (i := 2) (k := 3) (v := ?_) rfl rfl (by decide) (by kernel_rfl) (by kernel_rfl) (by kernel_rfl) (by kernel_rfl) (by kernel_rfl) (by kernel_rfl) (fun _ _ _ h => h) (Or.inl ⟨by rfl, ?_⟩) (by assumption) ?_
          rotate_left
          · intro X hX
            go_simp
            try with_reducible rfl
          try simp only [List.getElem_toArray, List.getElem_cons_succ, List.getElem_cons_zero]
          try simp only [Act.put, List.setIfInBounds_toArray, List.set_cons_zero, List.set_cons_succ]
          refine wpAnyL_take (i := 3) (k := 4) (v := ?_) rfl rfl (by decide) (by kernel_rfl) (by kernel_rfl) (by kernel_rfl) (by kernel_rfl) (by kernel_rfl) (by kernel_rfl) (fun _ _ _ h => h) (Or.inl ⟨by rfl, ?_⟩) (by assumption) ?_
          rotate_left
          · intro X hX
            go_simp
            try with_reducible rfl
          try simp only [List.getElem_toArray, List.getElem_cons_succ, List.getElem_cons_zero]
          try simp only [Act.put, List.setIfInBounds_toArray, List.set_cons_zero, List.set_cons_succ]
          refine wpAnyL_take (i := 4) (k := 5) (v := ?_) rfl rfl (by decide) (by kernel_rfl) (by kernel_rfl) (by kernel_rfl) (by kernel_rfl) (by kernel_rfl) (by kernel_rfl) (fun _ _ _ h => h) (Or.inl ⟨by rfl, ?_⟩) (by assumption) ?_
          rotate_left
          · intro X hX
            go_simp
            try with_reducible rfl
          try simp only [List.getElem_toArray, List.getElem_cons_succ, List.getElem_cons_zero]
          try simp only [Act.put, List.setIfInBounds_toArray, List.set_cons_zero, List.set_cons_succ]
          refine wpAnyL_take (i := 6) (k := 7) (v := ?_) rfl rfl (by decide) (by kernel_rfl) (by kernel_rfl) (by kernel_rfl) (by kernel_rfl) (by kernel_rfl) (by kernel_rfl) (fun _ _ _ h => h) (Or.inl ⟨by rfl, ?_⟩) (by assumption) ?_
          rotate_left
          · intro X hX
            go_simp
            try with_reducible rfl
          try simp only [List.getElem_toArray, List.getElem_cons_succ, List.getElem_cons_zero]
          try simp only [Act.put, List.setIfInBounds_toArray, List.set_cons_zero, List.set_cons_succ]
          refine wpAnyL_take (i := 7) (k := 8) (v := ?_) rfl rfl (by decide) (by kernel_rfl) (by kernel_rfl) (by kernel_rfl) (by kernel_rfl) (by kernel_rfl) (by kernel_rfl) (fun _ _ _ h => h) (Or.inl ⟨by rfl, ?_⟩) (by assumption) ?_
          rotate_left
          · intro X hX
            go_simp
            try with_reducible rfl
          try simp only [List.getElem_toArray, List.getElem_cons_succ, List.getElem_cons_zero]
          try simp only [Act.put, List.setIfInBounds_toArray, List.set_cons_zero, List.set_cons_succ]
          refine wpAnyL_take (i := 8) (k := 9) (v := ?_) rfl rfl (by decide) (by kernel_rfl) (by kernel_rfl) (by kernel_rfl) (by kernel_rfl) (by kernel_rfl) (by kernel_rfl) (fun _ _ _ h => h) (Or.inl ⟨by rfl, ?_⟩) (by assumption) ?_
          rotate_left
          · intro X hX
            go_simp
            try with_reducible rfl
          try simp only [List.getElem_toArray, List.getElem_cons_succ, List.getElem_cons_zero]
          try simp only [Act.put, List.setIfInBounds_toArray, List.set_cons_zero, List.set_cons_succ]
          refine wpAnyL_take (i := 10) (k := 11) (v := ?_) rfl rfl (by decide) (by kernel_rfl) (by kernel_rfl) (by kernel_rfl) (by kernel_rfl) (by kernel_rfl) (by kernel_rfl) (fun _ _ _ h => h) (Or.inl ⟨by rfl, ?_⟩) (by assumption) ?_
          rotate_left
          · intro X hX
            go_simp
            try with_reducible rfl
          try simp only [List.getElem_toArray, List.getElem_cons_succ, List.getElem_cons_zero]
          try simp only [Act.put, List.setIfInBounds_toArray, List.set_cons_zero, List.set_cons_succ]
          refine wpAnyL_take (i := 13) (k := 14) (v := ?_) rfl rfl (by decide) (by kernel_rfl) (by kernel_rfl) (by kernel_rfl) (by kernel_rfl) (by kernel_rfl) (by kernel_rfl) (fun _ _ _ h => h) (Or.inl ⟨by rfl, ?_⟩) (by assumption) ?_
          rotate_left
          · intro X hX
            go_simp
            try with_reducible rfl
          try simp only [List.getElem_toArray, List.getElem_cons_succ, List.getElem_cons_zero]
          try simp only [Act.put, List.setIfInBounds_toArray, List.set_cons_zero, List.set_cons_succ]
          refine wpAnyL_take (i := 14) (k := 15) (v := ?_) rfl rfl (by decide) (by kernel_rfl) (by kernel_rfl) (by kernel_rfl) (by kernel_rfl) (by kernel_rfl) (by kernel_rfl) (fun _ _ _ h => h) (Or.inl ⟨by rfl, ?_⟩) (by assumption) ?_
          rotate_left
          · intro X hX
            go_simp
            try with_reducible rfl
          try simp only [List.getElem_toArray, List.getElem_cons_succ, List.getElem_cons_zero]
          try simp only [Act.put, List.setIfInBounds_toArray, List.set_cons_zero, List.set_cons_succ]
          refine wpAnyL_take (i := 15) (k := 16) (v := ?_) rfl rfl (by decide) (by kernel_rfl) (by kernel_rfl) (by kernel_rfl) (by kernel_rfl) (by kernel_rfl) (by kernel_rfl) (fun _ _ _ h => h) (Or.inl ⟨by rfl, ?_⟩) (by assumption) ?_
          rotate_left
          · intro X hX
            go_simp
            try with_reducible rfl
          try simp only [List.getElem_toArray, List.getElem_cons_succ, List.getElem_cons_zero]
          try simp only [Act.put, List.setIfInBounds_toArray, List.set_cons_zero, List.set_cons_succ]
          refine wpAnyL_take (i := 16) (k := 17) (v := ?_) rfl rfl (by decide) (by kernel_rfl) (by kernel_rfl) (by kernel_rfl) (by kernel_rfl) (by kernel_rfl) (by kernel_rfl) (fun _ _ _ h => h) (Or.inl ⟨by rfl, ?_⟩) (by assumption) ?_
          rotate_left
          · intro X hX
            go_simp
            try with_reducible rfl
          try simp only [List.getElem_toArray, List.getElem_cons_succ, List.getElem_cons_zero]
          try simp only [Act.put, List.setIfInBounds_toArray, List.set_cons_zero, List.set_cons_succ]
          refine wpAnyL_ready (rs := [5,11]) (by kernel_rfl) (by simp) (AllReadyL.cons rfl (fun K hK => ?_) (AllReadyL.cons rfl (fun K hK => ?_) AllReadyL.nil))
          · refine step_make_own (base := w3.heap.size) rfl _ _ rfl (n := xes.length + 1) (by omega) hQ.size (by simp [Act.eval]) (by simp [Act.eval]) ?_
            intro gR wn hO hgR hb
            replace hQ := hQ.trans (hb.mono hQ.size)
            clear hb
            have hH := (HBV.out _ hQ).1
            refine hK.out _ _ ?_ (fun hHeld => ?_)
            · intro _; exact hH
            clear hK K hH
            try simp only [List.getElem_toArray, List.getElem_cons_succ, List.getElem_cons_zero]
            try simp only [Act.put, List.setIfInBounds_toArray, List.set_cons_zero, List.set_cons_succ]
            refine wpAnyL_ready (rs := [9,11]) (by kernel_rfl) (by simp) (AllReadyL.cons rfl (fun K hK => ?_) (AllReadyL.cons rfl (fun K hK => ?_) AllReadyL.nil))
            · refine step_ents (base := w3.heap.size) (n := 0) (N := xes.length) (xs := []) (es := xes) (v := .slice (some ⟨gR, 0, none⟩) 0 (xes.length + 1)) (ka := .slice xa xes.length xc) rfl _ _ rfl rfl (by omega) (by simp [Act.eval]) (by simp [Act.eval]) hO (IK.out _ hQ) hQ.size (by omega) ?_
              intro A1 c1 wn hO1 hgr
              replace hQ := grown_bel hQ hgr (fun j e => (World.ownsRow.lt hO j e).1)
              replace hO := hO1
              clear hgr hO1
              have hH := (HBV.out _ hQ).1
              refine hK.out _ _ ?_ (fun hHeld => ?_)
              · intro _; exact hH
              clear hK K hH
              try simp only [List.getElem_toArray, List.getElem_cons_succ, List.getElem_cons_zero]
              try simp only [Act.put, List.setIfInBounds_toArray, List.set_cons_zero, List.set_cons_succ]
              refine wpAnyL_ready (rs := [11]) (by kernel_rfl) (by simp) (AllReadyL.cons rfl (fun K hK => ?_) AllReadyL.nil)
              · refine step_lit70 rfl _ rfl (by simp [Act.eval]) ?_
                intro gL wn hL hgL hb
                replace hO := own_keep hO hb
                replace hQ := hQ.trans (hb.mono hQ.size)
                clear hb
                have hH := (HBV.out _ hQ).1
                refine hK.out _ _ ?_ (fun hHeld => ?_)
                · intro _; exact hH
                clear hK K hH
                try simp only [List.getElem_toArray, List.getElem_cons_succ, List.getElem_cons_zero]
                try simp only [Act.put, List.setIfInBounds_toArray, List.set_cons_zero, List.set_cons_succ]
                refine wpAnyL_ready (rs := [12]) (by kernel_rfl) (by simp) (AllReadyL.cons rfl (fun K hK => ?_) AllReadyL.nil)
                · refine step_ents (base := w3.heap.size) (n := xes.length) (N := xes.length + 1) (es := [e70]) (v := .slice A1 xes.length c1) (ka := .slice (some ⟨gL, 0, none⟩) 1 1) rfl _ _ rfl rfl rfl (by simp [Act.eval]) (by simp [Act.eval]) hO (ents_lit hL) hQ.size (by omega) ?_
                  intro A2 c2 wn hO2 hgr
                  replace hQ := grown_bel hQ hgr (fun j e => (World.ownsRow.lt hO j e).1)
                  clear hgr hO hL
                  obtain ⟨g2, rfl, hg2, hgl2, hnc2, hcm2⟩ := eown_shape hO2 (by omega)
                  have hi2 : (xes.length : Int) ≤ (c2 : Int) := by omega
                  have hH := (HBV.out _ hQ).1
                  refine hK.out _ _ ?_ (fun hHeld => ?_)
                  · intro _; exact hH
                  clear hK K hH
                  try simp only [List.getElem_toArray, List.getElem_cons_succ, List.getElem_cons_zero]
                  try simp only [Act.put, List.setIfInBounds_toArray, List.set_cons_zero, List.set_cons_succ]
                  refine wpAnyL_ready (rs := [17]) (by kernel_rfl) (by simp) (AllReadyL.cons rfl (fun K hK => ?_) AllReadyL.nil)
                  · go_simp
                    have hH := (HBV.out _ hQ).1
                    refine hK.out _ _ ?_ (fun hHeld => ?_)
                    · intro _; exact hH
                    clear hK K hH
                    try simp only [List.getElem_toArray, List.getElem_cons_succ, List.getElem_cons_zero]
                    try simp only [Act.put, List.setIfInBounds_toArray, List.set_cons_zero, List.set_cons_succ]
                    refine wpAnyL_ready (rs := [18]) (by kernel_rfl) (by simp) (AllReadyL.cons rfl (fun K hK => ?_) AllReadyL.nil)
                    · go_simp
                      have hH := (HBV.out _ hQ).1
                      refine hK.out _ _ ?_ (fun hHeld => ?_)
                      · intro _; exact hH
                      clear hK K hH
                      try simp only [List.getElem_toArray, List.getElem_cons_succ, List.getElem_cons_zero]
                      try simp only [Act.put, List.setIfInBounds_toArray, List.set_cons_zero, List.set_cons_succ]
                      refine wpAnyL_ready (rs := [19]) (by kernel_rfl) (by simp) (AllReadyL.cons rfl (fun K hK => ?_) AllReadyL.nil)
                      · go_simp
                        have hH := (HBV.out _ hQ).1
                        refine hK.out _ _ ?_ (fun hHeld => ?_)
                        · intro _; exact hH
                        clear hK K hH
                        try simp only [List.getElem_toArray, List.getElem_cons_succ, List.getElem_cons_zero]
                        try simp only [Act.put, List.setIfInBounds_toArray, List.set_cons_zero, List.set_cons_succ]
                        refine wpAnyL_ready (rs := [20]) (by kernel_rfl) (by simp) (AllReadyL.cons rfl (fun K hK => ?_) AllReadyL.nil)
                        · obtain ⟨zc, zf⟩ := HBV.out _ hQ
                          go_simp
                          refine hK.out _ _ ?_ (fun hHeld => ?_)
                          · intro hlt0; exact absurd hlt0 (by decide)
                          clear hK K
                          try simp only [List.getElem_toArray, List.getElem_cons_succ, List.getElem_cons_zero]
                          try simp only [Act.put]
                          refine wpAnyL_done (by kernel_rfl) ?_ _
                          go_wp2_with fail
                          go_meet
                          case rel => exact ⟨rfl, g2, c2, Lib.hid (laid_any H3.out HK3.out hQ hO2)⟩
            · refine step_lit70 rfl _ rfl (by simp [Act.eval]) ?_
              intro gL wn hL hgL hb
              have hne : gR ≠ gL := by have := (World.ownsRow.lt hO gR rfl).2; omega
              replace hO := own_keep hO hb
              replace hQ := hQ.trans (hb.mono hQ.size)
              clear hb
              have hH := (HBV.out _ hQ).1
              refine hK.out _ _ ?_ (fun hHeld => ?_)
              · intro _; exact hH
              clear hK K hH
              try simp only [List.getElem_toArray, List.getElem_cons_succ, List.getElem_cons_zero]
              try simp only [Act.put, List.setIfInBounds_toArray, List.set_cons_zero, List.set_cons_succ]
              refine wpAnyL_ready (rs := [9]) (by kernel_rfl) (by simp) (AllReadyL.cons rfl (fun K hK => ?_) AllReadyL.nil)
              · refine step_ents (base := w3.heap.size) (n := 0) (N := xes.length) (xs := []) (es := xes) (v := .slice (some ⟨gR, 0, none⟩) 0 (xes.length + 1)) (ka := .slice xa xes.length xc) rfl _ _ rfl rfl (by omega) (by simp [Act.eval]) (by simp [Act.eval]) hO (IK.out _ hQ) hQ.size (by omega) ?_
                intro A1 c1 wn hO1 hgr
                replace hL := heap_grown hL hgr (fun e => hne (by injection e))
                replace hQ := grown_bel hQ hgr (fun j e => (World.ownsRow.lt hO j e).1)
                replace hO := hO1
                clear hgr hO1
                have hH := (HBV.out _ hQ).1
                refine hK.out _ _ ?_ (fun hHeld => ?_)
                · intro _; exact hH
                clear hK K hH
                try simp only [List.getElem_toArray, List.getElem_cons_succ, List.getElem_cons_zero]
                try simp only [Act.put, List.setIfInBounds_toArray, List.set_cons_zero, List.set_cons_succ]
                refine wpAnyL_ready (rs := [12]) (by kernel_rfl) (by simp) (AllReadyL.cons rfl (fun K hK => ?_) AllReadyL.nil)
                · refine step_ents (base := w3.heap.size) (n := xes.length) (N := xes.length + 1) (es := [e70]) (v := .slice A1 xes.length c1) (ka := .slice (some ⟨gL, 0, none⟩) 1 1) rfl _ _ rfl rfl rfl (by simp [Act.eval]) (by simp [Act.eval]) hO (ents_lit hL) hQ.size (by omega) ?_
                  intro A2 c2 wn hO2 hgr
                  replace hQ := grown_bel hQ hgr (fun j e => (World.ownsRow.lt hO j e).1)
                  clear hgr hO hL
                  obtain ⟨g2, rfl, hg2, hgl2, hnc2, hcm2⟩ := eown_shape hO2 (by omega)
                  have hi2 : (xes.length : Int) ≤ (c2 : Int) := by omega
                  have hH := (HBV.out _ hQ).1
                  refine hK.out _ _ ?_ (fun hHeld => ?_)
                  · intro _; exact hH
                  clear hK K hH
                  try simp only [List.getElem_toArray, List.getElem_cons_succ, List.getElem_cons_zero]
                  try simp only [Act.put, List.setIfInBounds_toArray, List.set_cons_zero, List.set_cons_succ]
                  refine wpAnyL_ready (rs := [17]) (by kernel_rfl) (by simp) (AllReadyL.cons rfl (fun K hK => ?_) AllReadyL.nil)
                  · go_simp
                    have hH := (HBV.out _ hQ).1
                    refine hK.out _ _ ?_ (fun hHeld => ?_)
                    · intro _; exact hH
                    clear hK K hH
                    try simp only [List.getElem_toArray, List.getElem_cons_succ, List.getElem_cons_zero]
                    try simp only [Act.put, List.setIfInBounds_toArray, List.set_cons_zero, List.set_cons_succ]
                    refine wpAnyL_ready (rs := [18]) (by kernel_rfl) (by simp) (AllReadyL.cons rfl (fun K hK => ?_) AllReadyL.nil)
                    · go_simp
                      have hH := (HBV.out _ hQ).1
                      refine hK.out _ _ ?_ (fun hHeld => ?_)
                      · intro _; exact hH
                      clear hK K hH
                      try simp only [List.getElem_toArray, List.getElem_cons_succ, List.getElem_cons_zero]
                      try simp only [Act.put, List.setIfInBounds_toArray, List.set_cons_zero, List.set_cons_succ]
                      refine wpAnyL_ready (rs := [19]) (by kernel_rfl) (by simp) (AllReadyL.cons rfl (fun K hK => ?_) AllReadyL.nil)
                      · go_simp
                        have hH := (HBV.out _ hQ).1
                        refine hK.out _ _ ?_ (fun hHeld => ?_)
                        · intro _; exact hH
                        clear hK K hH
                        try simp only [List.getElem_toArray, List.getElem_cons_succ, List.getElem_cons_zero]
                        try simp only [Act.put, List.setIfInBounds_toArray, List.set_cons_zero, List.set_cons_succ]
                        refine wpAnyL_ready (rs := [20]) (by kernel_rfl) (by simp) (AllReadyL.cons rfl (fun K hK => ?_) AllReadyL.nil)
                        · obtain ⟨zc, zf⟩ := HBV.out _ hQ
                          go_simp
                          refine hK.out _ _ ?_ (fun hHeld => ?_)
                          · intro hlt0; exact absurd hlt0 (by decide)
                          clear hK K
                          try simp only [List.getElem_toArray, List.getElem_cons_succ, List.getElem_cons_zero]
                          try simp only [Act.put]
                          refine wpAnyL_done (by kernel_rfl) ?_ _
                          go_wp2_with fail
                          go_meet
                          case rel => exact ⟨rfl, g2, c2, Lib.hid (laid_any H3.out HK3.out hQ hO2)⟩
          · refine step_lit70 rfl _ rfl (by simp [Act.eval]) ?_
            intro gL wn hL hgL hb
            replace hQ := hQ.trans (hb.mono hQ.size)
            clear hb
            have hH := (HBV.out _ hQ).1
            refine hK.out _ _ ?_ (fun hHeld => ?_)
            · intro _; exact hH
            clear hK K hH
            try simp only [List.getElem_toArray, List.getElem_cons_succ, List.getElem_cons_zero]
            try simp only [Act.put, List.setIfInBounds_toArray, List.set_cons_zero, List.set_cons_succ]
            refine wpAnyL_ready (rs := [5]) (by kernel_rfl) (by simp) (AllReadyL.cons rfl (fun K hK => ?_) AllReadyL.nil)
            · refine step_make_own (base := w3.heap.size) rfl _ _ rfl (n := xes.length + 1) (by omega) hQ.size (by simp [Act.eval]) (by simp [Act.eval]) ?_
              intro gR wn hO hgR hb
              have hne : gR ≠ gL := by have := lt_of_block hL; omega
              replace hL := heap_keep rfl hL hb
              replace hQ := hQ.trans (hb.mono hQ.size)
              clear hb
              have hH := (HBV.out _ hQ).1
              refine hK.out _ _ ?_ (fun hHeld => ?_)
              · intro _; exact hH
              clear hK K hH
              try simp only [List.getElem_toArray, List.getElem_cons_succ, List.getElem_cons_zero]
              try simp only [Act.put, List.setIfInBounds_toArray, List.set_cons_zero, List.set_cons_succ]
              refine wpAnyL_ready (rs := [9]) (by kernel_rfl) (by simp) (AllReadyL.cons rfl (fun K hK => ?_) AllReadyL.nil)
              · refine step_ents (base := w3.heap.size) (n := 0) (N := xes.length) (xs := []) (es := xes) (v := .slice (some ⟨gR, 0, none⟩) 0 (xes.length + 1)) (ka := .slice xa xes.length xc) rfl _ _ rfl rfl (by omega) (by simp [Act.eval]) (by simp [Act.eval]) hO (IK.out _ hQ) hQ.size (by omega) ?_
                intro A1 c1 wn hO1 hgr
                replace hL := heap_grown hL hgr (fun e => hne (by injection e))
                replace hQ := grown_bel hQ hgr (fun j e => (World.ownsRow.lt hO j e).1)
                replace hO := hO1
                clear hgr hO1
                have hH := (HBV.out _ hQ).1
                refine hK.out _ _ ?_ (fun hHeld => ?_)
                · intro _; exact hH
                clear hK K hH
                try simp only [List.getElem_toArray, List.getElem_cons_succ, List.getElem_cons_zero]
                try simp only [Act.put, List.setIfInBounds_toArray, List.set_cons_zero, List.set_cons_succ]
                refine wpAnyL_ready (rs := [12]) (by kernel_rfl) (by simp) (AllReadyL.cons rfl (fun K hK => ?_) AllReadyL.nil)
                · refine step_ents (base := w3.heap.size) (n := xes.length) (N := xes.length + 1) (es := [e70]) (v := .slice A1 xes.length c1) (ka := .slice (some ⟨gL, 0, none⟩) 1 1) rfl _ _ rfl rfl rfl (by simp [Act.eval]) (by simp [Act.eval]) hO (ents_lit hL) hQ.size (by omega) ?_
                  intro A2 c2 wn hO2 hgr
                  replace hQ := grown_bel hQ hgr (fun j e => (World.ownsRow.lt hO j e).1)
                  clear hgr hO hL
                  obtain ⟨g2, rfl, hg2, hgl2, hnc2, hcm2⟩ := eown_shape hO2 (by omega)
                  have hi2 : (xes.length : Int) ≤ (c2 : Int) := by omega
                  have hH := (HBV.out _ hQ).1
                  refine hK.out _ _ ?_ (fun hHeld => ?_)
                  · intro _; exact hH
                  clear hK K hH
                  try simp only [List.getElem_toArray, List.getElem_cons_succ, List.getElem_cons_zero]
                  try simp only [Act.put, List.setIfInBounds_toArray, List.set_cons_zero, List.set_cons_succ]
                  refine wpAnyL_ready (rs := [17]) (by kernel_rfl) (by simp) (AllReadyL.cons rfl (fun K hK => ?_) AllReadyL.nil)
                  · go_simp
                    have hH := (HBV.out _ hQ).1
                    refine hK.out _ _ ?_ (fun hHeld => ?_)
                    · intro _; exact hH
                    clear hK K hH
                    try simp only [List.getElem_toArray, List.getElem_cons_succ, List.getElem_cons_zero]
                    try simp only [Act.put, List.setIfInBounds_toArray, List.set_cons_zero, List.set_cons_succ]
                    refine wpAnyL_ready (rs := [18]) (by kernel_rfl) (by simp) (AllReadyL.cons rfl (fun K hK => ?_) AllReadyL.nil)
                    · go_simp
                      have hH := (HBV.out _ hQ).1
                      refine hK.out _ _ ?_ (fun hHeld => ?_)
                      · intro _; exact hH
                      clear hK K hH
                      try simp only [List.getElem_toArray, List.getElem_cons_succ, List.getElem_cons_zero]
                      try simp only [Act.put, List.setIfInBounds_toArray, List.set_cons_zero, List.set_cons_succ]
                      refine wpAnyL_ready (rs := [19]) (by kernel_rfl) (by simp) (AllReadyL.cons rfl (fun K hK => ?_) AllReadyL.nil)
                      · go_simp
                        have hH := (HBV.out _ hQ).1
                        refine hK.out _ _ ?_ (fun hHeld => ?_)
                        · intro _; exact hH
                        clear hK K hH
                        try simp only [List.getElem_toArray, List.getElem_cons_succ, List.getElem_cons_zero]
                        try simp only [Act.put, List.setIfInBounds_toArray, List.set_cons_zero, List.set_cons_succ]
                        refine wpAnyL_ready (rs := [20]) (by kernel_rfl) (by simp) (AllReadyL.cons rfl (fun K hK => ?_) AllReadyL.nil)
                        · obtain ⟨zc, zf⟩ := HBV.out _ hQ
                          go_simp
                          refine hK.out _ _ ?_ (fun hHeld => ?_)
                          · intro hlt0; exact absurd hlt0 (by decide)
                          clear hK K
                          try simp only [List.getElem_toArray, List.getElem_cons_succ, List.getElem_cons_zero]
                          try simp only [Act.put]
                          refine wpAnyL_done (by kernel_rfl) ?_ _
                          go_wp2_with fail
                          go_meet
                          case rel => exact ⟨rfl, g2, c2, Lib.hid (laid_any H3.out HK3.out hQ hO2)⟩
        case rest =>
          obtain ⟨rfl, g2, c2, HL⟩ := hcut
          obtain ⟨wx, he⟩ : ∃ W, W = wc := ⟨_, rfl⟩
          subst he
          obtain ⟨hT, hK, hO, h70, hc2, hm2, hne⟩ := HL.out
          have LDA := Lib.hid (load_act hK)
          obtain ⟨⟨M2, ⟨mh, mes⟩, ok⟩, hR⟩ : ∃ R, Hid (Net.act M xk ⟨xh, xes⟩ xi = R) := ⟨_, Lib.hid rfl⟩
          have HD := two_does ⟨xk, xh, some ⟨g2, 0, none⟩, c2, xes, xi⟩ hkx (Lib.hid hT) hO.ents hlx
          rw [show Net.act M (AV.mk xk xh (some ⟨g2, 0, none⟩) c2 xes xi).k (AV.mk xk xh (some ⟨g2, 0, none⟩) c2 xes xi).ml (AV.mk xk xh (some ⟨g2, 0, none⟩) c2 xes xi).i = (M2, ⟨mh, mes⟩, ok) from hR.out] at HD
          replace HD := Lib.hid HD
          clear HL hT k10 hmk HBV IK H3 HK3 HX1 hbx
          go_wp2_with (first | (refine wpList_load_run rfl 38 _ rfl ⟨bx, 0, none⟩ rfl LDA.out ?_))
          refine (HD.out).mono ?_
          rintro e wy ⟨A7, c7, rfl, hT7, hO7, hU7, hz7⟩
          dsimp only at hT7 hO7 hU7
          have hKy := ((hU7.out bx (.inl rfl)).1).trans hK
          have hOy : EOwn wy 0 (.slice (some ⟨g2, 0, none⟩) xes.length c2) xes := own_same hO fun k e => (hU7.out k (.inr (by injection e with e; exact e.symm))).1
          have h70y := (cell_same (o := xes.length * 6) (hU7.out g2 (.inr rfl)).1).trans h70
          obtain ⟨w7, st7, k7, b7, l7⟩ := box_mail wy mh A7 mes.length c7
          have ST7 := Lib.hid st7
          obtain ⟨g7, hg7⟩ : ∃ g, Hid (g = wy.heap.size) := ⟨_, Lib.hid rfl⟩
          have hg7' := hg7.out
          have HT7 : Hid (Two w1 n r M2 M (fun k => ((k = bx ∨ k = g2) ∨ (Value.slice A7 mes.length c7).ownBlock = some k) ∨ k = g7) w7) := Lib.hid (hT7.out.more b7 fun k hk => hk.elim .inl fun e => .inr (by rw [e, hg7']; exact ⟨Nat.le_refl _, l7⟩))
          have hO7' := hO7.out.below b7
          have hKy' := (b7.block bx (lt_of_block hKy)).trans hKy
          have hOy' := hOy.below b7
          have h70y' := (cell_same (o := xes.length * 6) (b7.block g2 (EOwn.lt hOy rfl).2)).trans h70y
          rw [← hg7'] at k7
          have hne7 : ∀ k, (k = bx ∨ k = g2) ∨ (Value.slice A7 mes.length c7).ownBlock = some k → k ≠ g7 := fun k hk e => by
            have h1 : k < wy.heap.size := by
              rcases hk with (e | e) | e
              · rw [e]; exact lt_of_block hKy
              · rw [e]; exact (EOwn.lt hOy rfl).2
              · exact (hO7.out.lt e).2
            omega
          have hOl := HT7.out.bel
          have LDX := Lib.hid (HLDX.out w7 hOl)
          have HDD := two_did ⟨xk, xh, xa, xc, xes, xi⟩ hkx HT7 (HEX.out.below hOl) hlx
          rw [show Net.act M (AV.mk xk xh xa xc xes xi).k (AV.mk xk xh xa xc xes xi).ml (AV.mk xk xh xa xc xes xi).i = (M2, ⟨mh, mes⟩, ok) from hR.out] at HDD
          replace HDD := Lib.hid HDD
          have hne27 : ∀ k, (Value.slice A7 mes.length c7).ownBlock = some k → k ≠ bx ∧ k ≠ g2 := fun k e => ⟨fun e2 => (hU7.out bx (.inl rfl)).2 (e2 ▸ e), fun e2 => (hU7.out g2 (.inr rfl)).2 (e2 ▸ e)⟩
          clear HD LDA hK hO h70 hT7 hO7 hU7 st7 b7 hKy hOy h70y hR hg7'
          go_wp2_with (first | ((refine wpList_store_run rfl 36 _ _ rfl ⟨wy.heap.size, 0, none⟩ _ rfl rfl ST7.out ?_); rw [← hg7.out]) | (refine wpList_load_run rfl 38 _ rfl ⟨b, o + i * 20, none⟩ rfl LDX.out ?_))
          refine (HDD.out).mono ?_
          rintro e wz ⟨A9, c9, rfl, hT9, hE9, hU9, hz9⟩
          dsimp only at hT9 hE9 hU9
          have k7z := (hU9.out g7 (.inr rfl)).trans k7
          have hKz := (hU9.out bx (.inl (.inl (.inl rfl)))).trans hKy'
          have hOz : EOwn wz 0 (.slice (some ⟨g2, 0, none⟩) xes.length c2) xes := own_same hOy' fun k e => hU9.out k (.inl (.inl (.inr (by injection e with e; exact e.symm))))
          have h70z := (cell_same (o := xes.length * 6) (hU9.out g2 (.inl (.inl (.inr rfl))))).trans h70y'
          have hO7z : EOwn wz 0 (.slice A7 mes.length c7) mes := own_same hO7' fun k e => hU9.out k (.inl (.inr e))
          obtain ⟨w9, st9, k9, b9, l9⟩ := box_mail wz mh A9 mes.length c9
          have ST9 := Lib.hid st9
          obtain ⟨g9, hg9⟩ : ∃ g, Hid (g = wz.heap.size) := ⟨_, Lib.hid rfl⟩
          have hg9' := hg9.out
          have HT9 : Hid (Two w1 n r M2 M2 (fun k => ((k = bx ∨ k = g2) ∨ (Value.slice A7 mes.length c7).ownBlock = some k) ∨ k = g7) w9) := Lib.hid (hT9.out.below b9)
          rw [← hg9'] at k9
          have k79 := (b9.block g7 (lt_of_block k7z)).trans k7z
          have hK9 := (b9.block bx (lt_of_block hKz)).trans hKz
          have hO9 := hOz.below b9
          have h709 := (cell_same (o := xes.length * 6) (b9.block g2 (EOwn.lt hOz rfl).2)).trans h70z
          have hO79 := hO7z.below b9
          have hE99 := hE9.out.below b9
          have hne9 : g9 ≠ g7 ∧ g9 ≠ bx := ⟨by have := lt_of_block k7z; omega, by have := lt_of_block hKz; omega⟩
          clear hg9' HDD LDX hT9 hE9 hU9 st9 b9 k7z hKz hOz h70z hO7z HT7 hO7' hKy' hOy' h70y' k7 hOl
          go_upto_region 11 with (first | ((refine wpList_store_run rfl 36 _ _ rfl ⟨wz.heap.size, 0, none⟩ _ rfl rfl ST9.out ?_); rw [← hg9.out]))
          obtain ⟨vr, msr, hr0, hrz, hmr, hmsr, AR, cR, rfl⟩ := HT9.out.list
          have HS : Hid (∀ X : World, Below w9.heap.size w9 X → (loadVar 36 ⟨g7, 0, none⟩).run Try.prog X = .ok (.agg (mcells mh (.slice A7 mes.length c7)).toArray) X ∧ (loadVar 36 ⟨g9, 0, none⟩).run Try.prog X = .ok (.agg (mcells mh (.slice A9 mes.length c9)).toArray) X ∧ X.cell? ⟨bx, 10, none⟩ = some (.slice (some ⟨g2, 0, none⟩) xes.length c2) ∧ X.cell? ⟨b, o + i * 20 + 10, none⟩ = some (.slice xa xes.length xc) ∧ X.cell? ⟨g2, xes.length * 6, none⟩ = some (.int .i64 (-70)) ∧ X.cell? ⟨r, 0, none⟩ = some (.slice AR M2.length cR)) := Lib.hid fun X hX => by
            have hb1 : Below w1.heap.size w1 X := HT9.out.bel.trans (hX.mono HT9.out.bel.size)
            refine ⟨load_ml ((hX.block g7 (lt_of_block k79)).trans k79), load_ml ((hX.block g9 (lt_of_block k9)).trans k9), ?_, HCX.out X hb1, (cell_same (hX.block g2 (EOwn.lt hO9 rfl).2)).trans h709, (cell_same (hX.block r (lt_of_cell hr0))).trans hr0⟩
            rw [act_cells ((hX.block bx (lt_of_block hK9)).trans hK9)]; rfl
          have HSM := Lib.hid (fun X (hX : Below w9.heap.size w9 X) => sameMail_any mh (hO79.ents.below hX) (hE99.below hX))
          have HSE := Lib.hid (fun X (hX : Below w9.heap.size w9 X) => sameEntries_any (hO9.ents.below hX) (HEX.out.below (HT9.out.bel.trans (hX.mono HT9.out.bel.size))))
          have HLN : Hid (∀ X : World, Below w9.heap.size w9 X → Calls Try.prog 15 #[.pointer (some ⟨n, 0, none⟩)] X fun e w' => e = .returned (.int .i64 (M2.length : Int)) ∧ Below X.heap.size X w') := Lib.hid fun X hX => (two_len (Lib.hid (HT9.out.below hX))).mono fun e w' h => ⟨h.1, by rw [← h.2]; exact Below.refl _ _⟩
          have h31 : (xes.length : Int) + 1 ≤ (c2 : Int) := by omega
          have h36 : (xes.length : Int) < (xes.length : Int) + 1 := by omega
          clear hr0 hrz hmr hmsr
          go_cut [113] (fun u wx => u = .bool false ∧ Hid (Below w9.heap.size w9 wx))
          case first =>
            have hQ : Below w9.heap.size w9 w9.drew := (Below.refl _ _).drew
            have hH := HS.out _ hQ
            clear HT9 hO9 hO79 hE99 k79 k9 hK9 h709 HCX HEX
            refine wp_region_held_drew (S := fun X => (loadVar 36 ⟨g7, 0, none⟩).run Try.prog X = .ok (.agg (mcells mh (.slice A7 mes.length c7)).toArray) X ∧ (loadVar 36 ⟨g9, 0, none⟩).run Try.prog X = .ok (.agg (mcells mh (.slice A9 mes.length c9)).toArray) X ∧ X.cell? ⟨bx, 10, none⟩ = some (.slice (some ⟨g2, 0, none⟩) xes.length c2) ∧ X.cell? ⟨b, o + i * 20 + 10, none⟩ = some (.slice xa xes.length xc) ∧ X.cell? ⟨g2, xes.length * 6, none⟩ = some (.int .i64 (-70)) ∧ X.cell? ⟨r, 0, none⟩ = some (.slice AR M2.length cR)) (by kernel_rfl) hH (fun hHeld => ?_)
            clear hH
            refine wpAnyH_take (i := 0) (v := ?_) rfl (by kernel_rfl) (by kernel_rfl) (by kernel_rfl) (fun _ _ _ h => h) (Or.inl ⟨by kernel_rfl, ?_⟩) (by assumption) ?_
            rotate_left
            · intro X hX
              go_simp
              try with_reducible rfl
            try simp only [List.getElem_toArray, List.getElem_cons_zero]
            try simp only [Act.put, List.setIfInBounds_toArray, List.set_cons_zero, List.set_cons_succ]
            refine wpAnyH_take (i := 1) (v := ?_) rfl (by kernel_rfl) (by kernel_rfl) (by kernel_rfl) (fun _ _ _ h => h) (Or.inl ⟨by kernel_rfl, ?_⟩) (by assumption) ?_
            rotate_left
            · intro X hX
              go_simp
              try with_reducible rfl
            try simp only [List.getElem_toArray, List.getElem_cons_succ, List.getElem_cons_zero]
            try simp only [Act.put, List.setIfInBounds_toArray, List.set_cons_zero, List.set_cons_succ]
            refine wpAnyH_take (i := 2) (v := .bool false) rfl (by kernel_rfl) (by kernel_rfl) (by kernel_rfl) (fun _ _ _ h => h) (Or.inl ⟨by kernel_rfl, ?_⟩) (by assumption) ?_
            · intro X hX
              go_simp
            try simp only [List.getElem_toArray, List.getElem_cons_succ, List.getElem_cons_zero]
            try simp only [Act.put, List.setIfInBounds_toArray, List.set_cons_zero, List.set_cons_succ]
            refine wpAnyH_take (i := 3) (v := ?_) rfl (by kernel_rfl) (by kernel_rfl) (by kernel_rfl) (fun _ _ _ h => h) (Or.inl ⟨by kernel_rfl, ?_⟩) (by assumption) ?_
            rotate_left
            · intro X hX
              go_simp
              try with_reducible rfl
            try simp only [List.getElem_toArray, List.getElem_cons_succ, List.getElem_cons_zero]
            try simp only [Act.put, List.setIfInBounds_toArray, List.set_cons_zero, List.set_cons_succ]
            refine wpAnyH_take (i := 4) (v := .agg (mcells mh (.slice A7 mes.length c7)).toArray) rfl (by kernel_rfl) (by kernel_rfl) (by kernel_rfl) (fun _ _ _ h => h) (Or.inl ⟨by kernel_rfl, ?_⟩) (by assumption) ?_
            · intro X hX
              exact run_exec_load 36 (.tmp 7) rfl ⟨g7, 0, none⟩ rfl (hX.1)
            try simp only [List.getElem_toArray, List.getElem_cons_succ, List.getElem_cons_zero]
            try simp only [Act.put, List.setIfInBounds_toArray, List.set_cons_zero, List.set_cons_succ]
            refine wpAnyH_take (i := 5) (v := .agg (mcells mh (.slice A9 mes.length c9)).toArray) rfl (by kernel_rfl) (by kernel_rfl) (by kernel_rfl) (fun _ _ _ h => h) (Or.inl ⟨by kernel_rfl, ?_⟩) (by assumption) ?_
            · intro X hX
              exact run_exec_load 36 (.tmp 9) rfl ⟨g9, 0, none⟩ rfl (hX.2.1)
            try simp only [List.getElem_toArray, List.getElem_cons_succ, List.getElem_cons_zero]
            try simp only [Act.put, List.setIfInBounds_toArray, List.set_cons_zero, List.set_cons_succ]
            refine wpAnyH_ready (rs := [6]) (by kernel_rfl) (by simp) (AllReadyH.cons rfl (fun K hK => ?_) AllReadyH.nil)
            · go_simp
              refine (HSM.out _ hQ).mono ?_
              rintro e wm ⟨rfl, hb⟩
              replace hQ := hQ.trans (hb.mono hQ.size)
              clear hb
              have hH := HS.out _ hQ
              go_wp2_with fail
              refine hK.out _ _ ?_ (fun hHeld => ?_)
              · with_reducible exact hH
              clear hK K hH
              try simp only [List.getElem_toArray, List.getElem_cons_succ, List.getElem_cons_zero]
              try simp only [Act.put, List.setIfInBounds_toArray, List.set_cons_zero, List.set_cons_succ]
              refine wpAnyH_take (i := 7) (v := ?_) rfl (by kernel_rfl) (by kernel_rfl) (by kernel_rfl) (fun _ _ _ h => h) (Or.inl ⟨by kernel_rfl, ?_⟩) (by assumption) ?_
              rotate_left
              · intro X hX
                go_simp
                try with_reducible rfl
              try simp only [List.getElem_toArray, List.getElem_cons_succ, List.getElem_cons_zero]
              try simp only [Act.put, List.setIfInBounds_toArray, List.set_cons_zero, List.set_cons_succ]
              refine wpAnyH_take (i := 8) (v := ?_) rfl (by kernel_rfl) (by kernel_rfl) (by kernel_rfl) (fun _ _ _ h => h) (Or.inl ⟨by kernel_rfl, ?_⟩) (by assumption) ?_
              rotate_left
              · intro X hX
                go_simp
                try with_reducible rfl
              try simp only [List.getElem_toArray, List.getElem_cons_succ, List.getElem_cons_zero]
              try simp only [Act.put, List.setIfInBounds_toArray, List.set_cons_zero, List.set_cons_succ]
              refine wpAnyH_take (i := 9) (v := ?_) rfl (by kernel_rfl) (by kernel_rfl) (by kernel_rfl) (fun _ _ _ h => h) (Or.inl ⟨by kernel_rfl, ?_⟩) (by assumption) ?_
              rotate_left
              · intro X hX
                go_simp
                try with_reducible rfl
              try simp only [List.getElem_toArray, List.getElem_cons_succ, List.getElem_cons_zero]
              try simp only [Act.put, List.setIfInBounds_toArray, List.set_cons_zero, List.set_cons_succ]
              refine wpAnyH_take (i := 10) (v := ?_) rfl (by kernel_rfl) (by kernel_rfl) (by kernel_rfl) (fun _ _ _ h => h) (Or.inl ⟨by kernel_rfl, ?_⟩) (by assumption) ?_
              rotate_left
              · intro X hX
                go_simp
                try with_reducible rfl
              try simp only [List.getElem_toArray, List.getElem_cons_succ, List.getElem_cons_zero]
              try simp only [Act.put, List.setIfInBounds_toArray, List.set_cons_zero, List.set_cons_succ]
              refine wpAnyH_take (i := 11) (v := ?_) rfl (by kernel_rfl) (by kernel_rfl) (by kernel_rfl) (fun _ _ _ h => h) (Or.inl ⟨by kernel_rfl, ?_⟩) (by assumption) ?_
              rotate_left
              · intro X hX
                go_simp
                try with_reducible rfl
              try simp only [List.getElem_toArray, List.getElem_cons_succ, List.getElem_cons_zero]
              try simp only [Act.put, List.setIfInBounds_toArray, List.set_cons_zero, List.set_cons_succ]
              refine wpAnyH_take (i := 12) (v := .slice (some ⟨g2, 0, none⟩) xes.length c2) rfl (by kernel_rfl) (by kernel_rfl) (by kernel_rfl) (fun _ _ _ h => h) (Or.inl ⟨by kernel_rfl, ?_⟩) (by assumption) ?_
              · intro X hX
                obtain ⟨s1, s2, s3, s4, s5, s6⟩ := hX
                go_simp
              try simp only [List.getElem_toArray, List.getElem_cons_succ, List.getElem_cons_zero]
              try simp only [Act.put, List.setIfInBounds_toArray, List.set_cons_zero, List.set_cons_succ]
              refine wpAnyH_take (i := 13) (v := ?_) rfl (by kernel_rfl) (by kernel_rfl) (by kernel_rfl) (fun _ _ _ h => h) (Or.inl ⟨by kernel_rfl, ?_⟩) (by assumption) ?_
              rotate_left
              · intro X hX
                go_simp
                try with_reducible rfl
              try simp only [List.getElem_toArray, List.getElem_cons_succ, List.getElem_cons_zero]
              try simp only [Act.put, List.setIfInBounds_toArray, List.set_cons_zero, List.set_cons_succ]
              refine wpAnyH_take (i := 14) (v := ?_) rfl (by kernel_rfl) (by kernel_rfl) (by kernel_rfl) (fun _ _ _ h => h) (Or.inl ⟨by kernel_rfl, ?_⟩) (by assumption) ?_
              rotate_left
              · intro X hX
                go_simp
                try with_reducible rfl
              try simp only [List.getElem_toArray, List.getElem_cons_succ, List.getElem_cons_zero]
              try simp only [Act.put, List.setIfInBounds_toArray, List.set_cons_zero, List.set_cons_succ]
              refine wpAnyH_take (i := 15) (v := ?_) rfl (by kernel_rfl) (by kernel_rfl) (by kernel_rfl) (fun _ _ _ h => h) (Or.inl ⟨by kernel_rfl, ?_⟩) (by assumption) ?_
              rotate_left
              · intro X hX
                go_simp
                try with_reducible rfl
              try simp only [List.getElem_toArray, List.getElem_cons_succ, List.getElem_cons_zero]
              try simp only [Act.put, List.setIfInBounds_toArray, List.set_cons_zero, List.set_cons_succ]
              refine wpAnyH_take (i := 16) (v := ?_) rfl (by kernel_rfl) (by kernel_rfl) (by kernel_rfl) (fun _ _ _ h => h) (Or.inl ⟨by kernel_rfl, ?_⟩) (by assumption) ?_
              rotate_left
              · intro X hX
                go_simp
                try with_reducible rfl
              try simp only [List.getElem_toArray, List.getElem_cons_succ, List.getElem_cons_zero]
              try simp only [Act.put, List.setIfInBounds_toArray, List.set_cons_zero, List.set_cons_succ]
              refine wpAnyH_take (i := 17) (v := ?_) rfl (by kernel_rfl) (by kernel_rfl) (by kernel_rfl) (fun _ _ _ h => h) (Or.inl ⟨by kernel_rfl, ?_⟩) (by assumption) ?_
              rotate_left
              · intro X hX
                go_simp
                try with_reducible rfl
              try simp only [List.getElem_toArray, List.getElem_cons_succ, List.getElem_cons_zero]
              try simp only [Act.put, List.setIfInBounds_toArray, List.set_cons_zero, List.set_cons_succ]
              refine wpAnyH_take (i := 18) (v := .slice xa xes.length xc) rfl (by kernel_rfl) (by kernel_rfl) (by kernel_rfl) (fun _ _ _ h => h) (Or.inl ⟨by kernel_rfl, ?_⟩) (by assumption) ?_
              · intro X hX
                obtain ⟨s1, s2, s3, s4, s5, s6⟩ := hX
                go_simp
              try simp only [List.getElem_toArray, List.getElem_cons_succ, List.getElem_cons_zero]
              try simp only [Act.put, List.setIfInBounds_toArray, List.set_cons_zero, List.set_cons_succ]
              refine wpAnyH_ready (rs := [19]) (by kernel_rfl) (by simp) (AllReadyH.cons rfl (fun K hK => ?_) AllReadyH.nil)
              · go_simp
                refine (HSE.out _ hQ).mono ?_
                rintro e wm ⟨rfl, hb⟩
                replace hQ := hQ.trans (hb.mono hQ.size)
                clear hb
                have hH := HS.out _ hQ
                go_wp2_with fail
                refine hK.out _ _ ?_ (fun hHeld => ?_)
                · with_reducible exact hH
                clear hK K hH
                try simp only [List.getElem_toArray, List.getElem_cons_succ, List.getElem_cons_zero]
                try simp only [Act.put, List.setIfInBounds_toArray, List.set_cons_zero, List.set_cons_succ]
                refine wpAnyH_take (i := 20) (v := ?_) rfl (by kernel_rfl) (by kernel_rfl) (by kernel_rfl) (fun _ _ _ h => h) (Or.inl ⟨by kernel_rfl, ?_⟩) (by assumption) ?_
                rotate_left
                · intro X hX
                  go_simp
                  try with_reducible rfl
                try simp only [List.getElem_toArray, List.getElem_cons_succ, List.getElem_cons_zero]
                try simp only [Act.put, List.setIfInBounds_toArray, List.set_cons_zero, List.set_cons_succ]
                refine wpAnyH_take (i := 21) (v := ?_) rfl (by kernel_rfl) (by kernel_rfl) (by kernel_rfl) (fun _ _ _ h => h) (Or.inl ⟨by kernel_rfl, ?_⟩) (by assumption) ?_
                rotate_left
                · intro X hX
                  go_simp
                  try with_reducible rfl
                try simp only [List.getElem_toArray, List.getElem_cons_succ, List.getElem_cons_zero]
                try simp only [Act.put, List.setIfInBounds_toArray, List.set_cons_zero, List.set_cons_succ]
                refine wpAnyH_take (i := 22) (v := ?_) rfl (by kernel_rfl) (by kernel_rfl) (by kernel_rfl) (fun _ _ _ h => h) (Or.inl ⟨by kernel_rfl, ?_⟩) (by assumption) ?_
                rotate_left
                · intro X hX
                  go_simp
                  try with_reducible rfl
                try simp only [List.getElem_toArray, List.getElem_cons_succ, List.getElem_cons_zero]
                try simp only [Act.put, List.setIfInBounds_toArray, List.set_cons_zero, List.set_cons_succ]
                refine wpAnyH_take (i := 23) (v := ?_) rfl (by kernel_rfl) (by kernel_rfl) (by kernel_rfl) (fun _ _ _ h => h) (Or.inl ⟨by kernel_rfl, ?_⟩) (by assumption) ?_
                rotate_left
                · intro X hX
                  go_simp
                  try with_reducible rfl
                try simp only [List.getElem_toArray, List.getElem_cons_succ, List.getElem_cons_zero]
                try simp only [Act.put, List.setIfInBounds_toArray, List.set_cons_zero, List.set_cons_succ]
                refine wpAnyH_take (i := 24) (v := ?_) rfl (by kernel_rfl) (by kernel_rfl) (by kernel_rfl) (fun _ _ _ h => h) (Or.inl ⟨by kernel_rfl, ?_⟩) (by assumption) ?_
                rotate_left
                · intro X hX
                  go_simp
                  try with_reducible rfl
                try simp only [List.getElem_toArray, List.getElem_cons_succ, List.getElem_cons_zero]
                try simp only [Act.put, List.setIfInBounds_toArray, List.set_cons_zero, List.set_cons_succ]
                refine wpAnyH_take (i := 25) (v := .slice (some ⟨g2, 0, none⟩) xes.length c2) rfl (by kernel_rfl) (by kernel_rfl) (by kernel_rfl) (fun _ _ _ h => h) (Or.inl ⟨by kernel_rfl, ?_⟩) (by assumption) ?_
                · intro X hX
                  obtain ⟨s1, s2, s3, s4, s5, s6⟩ := hX
                  go_simp
                try simp only [List.getElem_toArray, List.getElem_cons_succ, List.getElem_cons_zero]
                try simp only [Act.put, List.setIfInBounds_toArray, List.set_cons_zero, List.set_cons_succ]
                refine wpAnyH_take (i := 26) (v := ?_) rfl (by kernel_rfl) (by kernel_rfl) (by kernel_rfl) (fun _ _ _ h => h) (Or.inl ⟨by kernel_rfl, ?_⟩) (by assumption) ?_
                rotate_left
                · intro X hX
                  go_simp
                  try with_reducible rfl
                try simp only [List.getElem_toArray, List.getElem_cons_succ, List.getElem_cons_zero]
                try simp only [Act.put, List.setIfInBounds_toArray, List.set_cons_zero, List.set_cons_succ]
                refine wpAnyH_take (i := 27) (v := ?_) rfl (by kernel_rfl) (by kernel_rfl) (by kernel_rfl) (fun _ _ _ h => h) (Or.inl ⟨by kernel_rfl, ?_⟩) (by assumption) ?_
                rotate_left
                · intro X hX
                  go_simp
                  try with_reducible rfl
                try simp only [List.getElem_toArray, List.getElem_cons_succ, List.getElem_cons_zero]
                try simp only [Act.put, List.setIfInBounds_toArray, List.set_cons_zero, List.set_cons_succ]
                refine wpAnyH_take (i := 28) (v := .slice (some ⟨g2, 0, none⟩) xes.length c2) rfl (by kernel_rfl) (by kernel_rfl) (by kernel_rfl) (fun _ _ _ h => h) (Or.inl ⟨by kernel_rfl, ?_⟩) (by assumption) ?_
                · intro X hX
                  obtain ⟨s1, s2, s3, s4, s5, s6⟩ := hX
                  go_simp
                try simp only [List.getElem_toArray, List.getElem_cons_succ, List.getElem_cons_zero]
                try simp only [Act.put, List.setIfInBounds_toArray, List.set_cons_zero, List.set_cons_succ]
                refine wpAnyH_take (i := 29) (v := ?_) rfl (by kernel_rfl) (by kernel_rfl) (by kernel_rfl) (fun _ _ _ h => h) (Or.inl ⟨by kernel_rfl, ?_⟩) (by assumption) ?_
                rotate_left
                · intro X hX
                  go_simp
                  try with_reducible rfl
                try simp only [List.getElem_toArray, List.getElem_cons_succ, List.getElem_cons_zero]
                try simp only [Act.put, List.setIfInBounds_toArray, List.set_cons_zero, List.set_cons_succ]
                refine wpAnyH_take (i := 30) (v := ?_) rfl (by kernel_rfl) (by kernel_rfl) (by kernel_rfl) (fun _ _ _ h => h) (Or.inl ⟨by kernel_rfl, ?_⟩) (by assumption) ?_
                rotate_left
                · intro X hX
                  go_simp
                  try with_reducible rfl
                try simp only [List.getElem_toArray, List.getElem_cons_succ, List.getElem_cons_zero]
                try simp only [Act.put, List.setIfInBounds_toArray, List.set_cons_zero, List.set_cons_succ]
                refine wpAnyH_take (i := 31) (v := .slice (some ⟨g2, 0, none⟩) (xes.length + 1) c2) rfl (by kernel_rfl) (by kernel_rfl) (by kernel_rfl) (fun _ _ _ h => h) (Or.inl ⟨by kernel_rfl, ?_⟩) (by assumption) ?_
                · intro X hX
                  go_simp
                  intro h0; exact absurd h0 (by omega)
                try simp only [List.getElem_toArray, List.getElem_cons_succ, List.getElem_cons_zero]
                try simp only [Act.put, List.setIfInBounds_toArray, List.set_cons_zero, List.set_cons_succ]
                refine wpAnyH_take (i := 32) (v := ?_) rfl (by kernel_rfl) (by kernel_rfl) (by kernel_rfl) (fun _ _ _ h => h) (Or.inl ⟨by kernel_rfl, ?_⟩) (by assumption) ?_
                rotate_left
                · intro X hX
                  go_simp
                  try with_reducible rfl
                try simp only [List.getElem_toArray, List.getElem_cons_succ, List.getElem_cons_zero]
                try simp only [Act.put, List.setIfInBounds_toArray, List.set_cons_zero, List.set_cons_succ]
                refine wpAnyH_take (i := 33) (v := ?_) rfl (by kernel_rfl) (by kernel_rfl) (by kernel_rfl) (fun _ _ _ h => h) (Or.inl ⟨by kernel_rfl, ?_⟩) (by assumption) ?_
                rotate_left
                · intro X hX
                  go_simp
                  try with_reducible rfl
                try simp only [List.getElem_toArray, List.getElem_cons_succ, List.getElem_cons_zero]
                try simp only [Act.put, List.setIfInBounds_toArray, List.set_cons_zero, List.set_cons_succ]
                refine wpAnyH_take (i := 34) (v := .slice (some ⟨g2, 0, none⟩) xes.length c2) rfl (by kernel_rfl) (by kernel_rfl) (by kernel_rfl) (fun _ _ _ h => h) (Or.inl ⟨by kernel_rfl, ?_⟩) (by assumption) ?_
                · intro X hX
                  obtain ⟨s1, s2, s3, s4, s5, s6⟩ := hX
                  go_simp
                try simp only [List.getElem_toArray, List.getElem_cons_succ, List.getElem_cons_zero]
                try simp only [Act.put, List.setIfInBounds_toArray, List.set_cons_zero, List.set_cons_succ]
                refine wpAnyH_take (i := 35) (v := ?_) rfl (by kernel_rfl) (by kernel_rfl) (by kernel_rfl) (fun _ _ _ h => h) (Or.inl ⟨by kernel_rfl, ?_⟩) (by assumption) ?_
                rotate_left
                · intro X hX
                  go_simp
                  try with_reducible rfl
                try simp only [List.getElem_toArray, List.getElem_cons_succ, List.getElem_cons_zero]
                try simp only [Act.put, List.setIfInBounds_toArray, List.set_cons_zero, List.set_cons_succ]
                refine wpAnyH_take (i := 36) (v := ?_) rfl (by kernel_rfl) (by kernel_rfl) (by kernel_rfl) (fun _ _ _ h => h) (Or.inl ⟨by kernel_rfl, ?_⟩) (by assumption) ?_
                rotate_left
                · intro X hX
                  go_simp
                  try with_reducible rfl
                try simp only [List.getElem_toArray, List.getElem_cons_succ, List.getElem_cons_zero]
                try simp only [Act.put, List.setIfInBounds_toArray, List.set_cons_zero, List.set_cons_succ]
                refine wpAnyH_take (i := 37) (v := ?_) rfl (by kernel_rfl) (by kernel_rfl) (by kernel_rfl) (fun _ _ _ h => h) (Or.inl ⟨by kernel_rfl, ?_⟩) (by assumption) ?_
                rotate_left
                · intro X hX
                  go_simp
                  try with_reducible rfl
                try simp only [List.getElem_toArray, List.getElem_cons_succ, List.getElem_cons_zero]
                try simp only [Act.put, List.setIfInBounds_toArray, List.set_cons_zero, List.set_cons_succ]
                refine wpAnyH_take (i := 38) (v := .int .i64 (-70)) rfl (by kernel_rfl) (by kernel_rfl) (by kernel_rfl) (fun _ _ _ h => h) (Or.inl ⟨by kernel_rfl, ?_⟩) (by assumption) ?_
                · intro X hX
                  obtain ⟨s1, s2, s3, s4, s5, s6⟩ := hX
                  go_simp
                try simp only [List.getElem_toArray, List.getElem_cons_succ, List.getElem_cons_zero]
                try simp only [Act.put, List.setIfInBounds_toArray, List.set_cons_zero, List.set_cons_succ]
                refine wpAnyH_take (i := 39) (v := ?_) rfl (by kernel_rfl) (by kernel_rfl) (by kernel_rfl) (fun _ _ _ h => h) (Or.inl ⟨by kernel_rfl, ?_⟩) (by assumption) ?_
                rotate_left
                · intro X hX
                  go_simp
                  try with_reducible rfl
                try simp only [List.getElem_toArray, List.getElem_cons_succ, List.getElem_cons_zero]
                try simp only [Act.put, List.setIfInBounds_toArray, List.set_cons_zero, List.set_cons_succ]
                refine wpAnyH_take (i := 40) (v := ?_) rfl (by kernel_rfl) (by kernel_rfl) (by kernel_rfl) (fun _ _ _ h => h) (Or.inl ⟨by kernel_rfl, ?_⟩) (by assumption) ?_
                rotate_left
                · intro X hX
                  go_simp
                  try with_reducible rfl
                try simp only [List.getElem_toArray, List.getElem_cons_succ, List.getElem_cons_zero]
                try simp only [Act.put, List.setIfInBounds_toArray, List.set_cons_zero, List.set_cons_succ]
                refine wpAnyH_take (i := 41) (v := ?_) rfl (by kernel_rfl) (by kernel_rfl) (by kernel_rfl) (fun _ _ _ h => h) (Or.inl ⟨by kernel_rfl, ?_⟩) (by assumption) ?_
                rotate_left
                · intro X hX
                  go_simp
                  try with_reducible rfl
                try simp only [List.getElem_toArray, List.getElem_cons_succ, List.getElem_cons_zero]
                try simp only [Act.put, List.setIfInBounds_toArray, List.set_cons_zero, List.set_cons_succ]
                refine wpAnyH_take (i := 42) (v := ?_) rfl (by kernel_rfl) (by kernel_rfl) (by kernel_rfl) (fun _ _ _ h => h) (Or.inl ⟨by kernel_rfl, ?_⟩) (by assumption) ?_
                rotate_left
                · intro X hX
                  go_simp
                  try with_reducible rfl
                try simp only [List.getElem_toArray, List.getElem_cons_succ, List.getElem_cons_zero]
                try simp only [Act.put, List.setIfInBounds_toArray, List.set_cons_zero, List.set_cons_succ]
                refine wpAnyH_take (i := 44) (v := ?_) rfl (by kernel_rfl) (by kernel_rfl) (by kernel_rfl) (fun _ _ _ h => h) (Or.inl ⟨by kernel_rfl, ?_⟩) (by assumption) ?_
                rotate_left
                · intro X hX
                  go_simp
                  try with_reducible rfl
                try simp only [List.getElem_toArray, List.getElem_cons_succ, List.getElem_cons_zero]
                try simp only [Act.put, List.setIfInBounds_toArray, List.set_cons_zero, List.set_cons_succ]
                refine wpAnyH_take (i := 45) (v := ?_) rfl (by kernel_rfl) (by kernel_rfl) (by kernel_rfl) (fun _ _ _ h => h) (Or.inl ⟨by kernel_rfl, ?_⟩) (by assumption) ?_
                rotate_left
                · intro X hX
                  go_simp
                  try with_reducible rfl
                try simp only [List.getElem_toArray, List.getElem_cons_succ, List.getElem_cons_zero]
                try simp only [Act.put, List.setIfInBounds_toArray, List.set_cons_zero, List.set_cons_succ]
                refine wpAnyH_take (i := 46) (v := ?_) rfl (by kernel_rfl) (by kernel_rfl) (by kernel_rfl) (fun _ _ _ h => h) (Or.inl ⟨by kernel_rfl, ?_⟩) (by assumption) ?_
                rotate_left
                · intro X hX
                  go_simp
                  try with_reducible rfl
                try simp only [List.getElem_toArray, List.getElem_cons_succ, List.getElem_cons_zero]
                try simp only [Act.put, List.setIfInBounds_toArray, List.set_cons_zero, List.set_cons_succ]
                refine wpAnyH_take (i := 47) (v := .slice AR M2.length cR) rfl (by kernel_rfl) (by kernel_rfl) (by kernel_rfl) (fun _ _ _ h => h) (Or.inl ⟨by kernel_rfl, ?_⟩) (by assumption) ?_
                · intro X hX
                  obtain ⟨s1, s2, s3, s4, s5, s6⟩ := hX
                  go_simp
                try simp only [List.getElem_toArray, List.getElem_cons_succ, List.getElem_cons_zero]
                try simp only [Act.put, List.setIfInBounds_toArray, List.set_cons_zero, List.set_cons_succ]
                refine wpAnyH_take (i := 48) (v := ?_) rfl (by kernel_rfl) (by kernel_rfl) (by kernel_rfl) (fun _ _ _ h => h) (Or.inl ⟨by kernel_rfl, ?_⟩) (by assumption) ?_
                rotate_left
                · intro X hX
                  go_simp
                  try with_reducible rfl
                try simp only [List.getElem_toArray, List.getElem_cons_succ, List.getElem_cons_zero]
                try simp only [Act.put, List.setIfInBounds_toArray, List.set_cons_zero, List.set_cons_succ]
                refine wpAnyH_ready (rs := [43]) (by kernel_rfl) (by simp) (AllReadyH.cons rfl (fun K hK => ?_) AllReadyH.nil)
                · go_simp
                  refine (HLN.out _ hQ).mono ?_
                  rintro e wm ⟨rfl, hb⟩
                  replace hQ := hQ.trans (hb.mono hQ.size)
                  clear hb
                  have hH := HS.out _ hQ
                  go_wp2_with fail
                  refine hK.out _ _ ?_ (fun hHeld => ?_)
                  · with_reducible exact hH
                  clear hK K hH
                  try simp only [List.getElem_toArray, List.getElem_cons_succ, List.getElem_cons_zero]
                  try simp only [Act.put, List.setIfInBounds_toArray, List.set_cons_zero, List.set_cons_succ]
                  refine wpAnyH_take (i := 49) (v := ?_) rfl (by kernel_rfl) (by kernel_rfl) (by kernel_rfl) (fun _ _ _ h => h) (Or.inl ⟨by kernel_rfl, ?_⟩) (by assumption) ?_
                  rotate_left
                  · intro X hX
                    go_simp
                    try with_reducible rfl
                  try simp only [List.getElem_toArray, List.getElem_cons_succ, List.getElem_cons_zero]
                  try simp only [Act.put, List.setIfInBounds_toArray, List.set_cons_zero, List.set_cons_succ]
                  refine wpAnyH_take (i := 50) (v := ?_) rfl (by kernel_rfl) (by kernel_rfl) (by kernel_rfl) (fun _ _ _ h => h) (Or.inl ⟨by kernel_rfl, ?_⟩) (by assumption) ?_
                  rotate_left
                  · intro X hX
                    go_simp
                    try with_reducible rfl
                  try simp only [List.getElem_toArray, List.getElem_cons_succ, List.getElem_cons_zero]
                  try simp only [Act.put, List.setIfInBounds_toArray, List.set_cons_zero, List.set_cons_succ]
                  refine wpAnyH_done (by kernel_rfl) ?_ _
                  go_wp2_with fail
                  go_meet
                  case rel => exact ⟨rfl, Lib.hid hQ⟩
          case rest =>
            obtain ⟨rfl, hk11⟩ := hcut
            obtain ⟨wa, he⟩ : ∃ W, W = wc := ⟨_, rfl⟩
            subst he
            have hk := hk11.out
            have HTa : Hid (Two w1 n r M2 M2 (fun k => ((k = bx ∨ k = g2) ∨ (Value.slice A7 mes.length c7).ownBlock = some k) ∨ k = g7) wa) := Lib.hid (HT9.out.below hk)
            have k7a := (hk.block g7 (lt_of_block k79)).trans k79
            have hKa := (hk.block bx (lt_of_block hK9)).trans hK9
            have hOa := hO9.below hk
            have hO7a := hO79.below hk
            have LAM := Lib.hid (act_mail hKa)
            have HSP := Lib.hid (spoil_any xh hOa)
            clear HT9 k79 hK9 hO9 hO79 hE99 h709 k9 HS HSM HSE HLN hk11 hk HCX HLDX HEX
            go_wp2_with (first | (refine wpList_load_run rfl 36 _ rfl ⟨bx, 1, none⟩ rfl LAM.out ?_))
            refine (HSP.out).mono ?_
            rintro e wb ⟨rfl, hf1⟩
            have HTb := Lib.hid (HTa.out.write hf1.out fun k hk => .inl (.inl (.inr (Option.some.inj hk.2).symm)))
            have k7b := (hf1.out.block g7 (lt_of_block k7a) fun e => hne7 g2 (.inl (.inr rfl)) (Option.some.inj e.2)).trans k7a
            have hO7b := hO7a.foot hf1.out fun k e h => (hne27 k e).2 (Option.some.inj h.2).symm
            have LM7 := Lib.hid (load_ml k7b)
            have HSP7 := Lib.hid (spoil_any mh hO7b)
            clear HTa k7a hKa hOa hO7a LAM HSP hf1
            go_wp2_with (first | (refine wpList_load_run rfl 36 _ rfl ⟨g7, 0, none⟩ rfl LM7.out ?_))
            refine (HSP7.out).mono ?_
            rintro e wd ⟨rfl, hf2⟩
            have HTd : Hid (Two w1 n r M2 M2 noU wd) := Lib.hid ((HTb.out.write hf2.out fun k hk => .inl (.inr hk.2)).less fun k e => e.elim)
            clear HTb k7b hO7b LM7 HSP7 hf2 hne7 hne27 hne9 hne
            have i1 : IntKind.i64.wrap ((i : Int) + 1) = (i : Int) + 1 := IntWalk.i64_in _ (by omega)
            by_cases hm : (i : Int) % 20 = 0
            · have t20 : ((i : Int) % 20 != 0) = false := by simp [hm]
              have HAL := Lib.hid (two_all HTd)
              go_wp2_with fail
              refine (HAL.out).mono ?_
              rintro e we ⟨A11, c11, ms, rfl, hM11, hm11, hd11, hb11⟩
              have HTe : Hid (Two w1 n r M2 M2 (fun k => OfMails (.slice A11 M2.length c11) ms k) we) := Lib.hid (HTd.out.more hb11.out fun k hk => .inr ⟨hd11.out k hk, hM11.out.lt hk⟩)
              obtain ⟨vr, msr2, hr0, hrz, hmr, hmsr2, AR2, cR2, rfl⟩ := HTe.out.list
              have HSA := Lib.hid (sameAll_any hM11.out.read hmr (hm11.out.trans hmsr2.symm))
              have hlm : Hid (ms.length = M2.length) := Lib.hid (by rw [← hm11.out]; simp)
              have hml : Hid (M2.length ≤ maxLen) := Lib.hid (by
                obtain ⟨_, c', _, h1, h2, _⟩ := hM11.out.len
                rw [← hlm.out]
                omega)
              have HLF := Lib.hid (Lft.first hM11.out)
              have HAP := Lib.hid hM11.out.apart
              have HOF := Lib.hid hM11.out.off
              clear HAL HTd hd11 hb11 hmr hrz hM11 hm11 hmsr2
              go_wp2_with fail
              refine (HSA.out).mono ?_
              rintro e wf ⟨rfl, hbf⟩
              have HTf := Lib.hid (HTe.out.below hbf)
              have HLG := Lib.hid (HLF.out.below hbf)
              clear HTe HLF HSA hr0 hbf
              go_wp2_with fail
              go_loopg [12] M2.length (fun kx s12 ww => ∃ j : Nat, j ≤ M2.length ∧ s12 = .int .i64 (j : Int) ∧ M2.length - j ≤ kx ∧ Hid (Two w1 n r M2 M2 (fun k => OfMails (.slice A11 M2.length c11) ms k) ww) ∧ Hid (Lft ww A11 ms j))
              case atStart => exact ⟨0, Nat.zero_le _, rfl, by omega, HTf, HLG⟩
              case round =>
                obtain ⟨j, hjl, rfl, hjk, HTj, HLj⟩ := hrel
                clear HTf HLG
                by_cases hjt : j < M2.length
                · have hj2 : (j : Int) < (M2.length : Int) := by omega
                  have hjm : j < ms.length := by rw [hlm.out]; exact hjt
                  obtain ⟨g, rfl, hg1, hg2, hg3, hg4⟩ := HLj.out j hjm (Nat.le_refl _)
                  have LMJ := Lib.hid (run_load_mail hg3)
                  have HSJ := Lib.hid (spoil_any ms[j].h hg4)
                  have hgo : ∀ m ∈ ms, m.v.ownBlock ≠ some g := fun m hm e => HOF.out m hm g e rfl
                  replace hgo := Lib.hid hgo
                  replace hg3 := Lib.hid (hg3 0 (by decide))
                  replace hg2 := Lib.hid (hg2 (j * 18))
                  clear hg4
                  go_wp2_with (first | (refine wpList_load_run rfl 36 _ rfl ⟨g, j * 18, none⟩ rfl LMJ.out ?_))
                  refine (HSJ.out).mono ?_
                  rintro e wq ⟨rfl, hfq⟩
                  have hgj := hgo.out _ (List.getElem_mem hjm)
                  have hbq := hfq.out.block g hg1 fun e => hgj e.2
                  have HLq : Hid (Lft wq (some ⟨g, 0, none⟩) ms (j + 1)) := Lib.hid (HLj.out.next.foot hfq.out (fun g' e e2 => by injection e with e; injection e with e _ _; subst e; exact hgj e2.2) fun q hq hjq k e e2 => (List.pairwise_iff_getElem.1 HAP.out j q hjm hq (by omega)) k e2.2 e)
                  have HTq := Lib.hid (HTj.out.write hfq.out fun k hk => .inr ⟨_, List.getElem_mem hjm, hk.2⟩)
                  have hcq : wq.cell? ⟨g, j * 18, none⟩ = some (.int .i64 ms[j].h.ki) := (cell_same hbq).trans hg3.out
                  have hzq : wq.frozen? ⟨g, j * 18, none⟩ = false := (frozen_same hbq).trans hg2.out
                  have j1 : IntKind.i64.wrap ((j : Int) + 1) = (j : Int) + 1 := IntWalk.i64_in _ (by have h := hml.out; unfold maxLen at h; omega)
                  clear HLj HTj LMJ HSJ hg3 hg2 hfq hbq hgj
                  go_wp2_with fail
                  go_roundg (M2.length - (j + 1))
                  case measure => omega
                  case rel => exact ⟨j + 1, by omega, by go_num, by omega, Lib.hid (HTq.out.write (Foot.set (fun k => k = g) _ _ _ rfl) fun k hk => .inl (by rw [hk]; rfl)), Lib.hid (Lft.set _ HLq.out hgo.out)⟩
                · have hj2 : ¬ (j : Int) < (M2.length : Int) := by omega
                  have HTn : Hid (Two w1 n r M2 M2 noU wr) := Lib.hid (HTj.out.less fun k e => e.elim)
                  clear HTj HLj
                  go_wp2_with fail
                  go_roundg (l.length - (i + 1))
                  case measure => omega
                  case rel => exact ⟨i + 1, M2, by omega, by go_num, by omega, HTn⟩
            · have t20 : ((i : Int) % 20 != 0) = true := by simp [hm]
              clear hm
              go_wp2_with fail
              go_roundg (l.length - (i + 1))
              case measure => omega
              case rel => exact ⟨i + 1, M2, by omega, by go_num, by omega, HTd⟩
      · obtain rfl : i = l.length := by omega
        have hlk : ¬ ((l.length : Int) < (l.length : Int)) := by omega
        obtain ⟨vr, msr, hr0, hrz, hmr, hmsr, AR, cR, rfl⟩ := HO.out.list
        have HS : Hid (∀ X : World, Below wr.heap.size wr X → X.cell? ⟨r, 0, none⟩ = some (.slice AR M.length cR)) := Lib.hid fun X hX => (cell_same (hX.block r (lt_of_cell hr0))).trans hr0
        have HMR := Lib.hid (fun X (hX : Below wr.heap.size wr X) => hmr.below hX)
        have HAL : Hid (∀ X : World, Below wr.heap.size wr X → Calls Try.prog 17 #[.pointer (some ⟨n, 0, none⟩)] X fun e w' => ∃ A c ms, e = .returned (.slice A M.length c) ∧ MRead w' (.slice A M.length c) ms ∧ ms.map MM.ml = M ∧ Below X.heap.size X w') := Lib.hid fun X hX => (two_all (Lib.hid (HO.out.below hX))).mono fun e w' h => by
          obtain ⟨A, c, ms, h1, h2, h3, h4, h5⟩ := h
          exact ⟨A, c, ms, h1, h2.out.read, h3.out, h5.out⟩
        have hbl := HO.out.bel
        clear hrz hmr hik HR HK
        go_upto_region 24 with fail
        have hQ : Below wr.heap.size wr wr.drew := (Below.refl _ _).drew
        have hH := HS.out _ hQ
        clear hr0 HO
        refine wp_region_held_drew (S := fun X => X.cell? ⟨r, 0, none⟩ = some (.slice AR M.length cR)) (by kernel_rfl) hH (fun hHeld => ?_)
        clear hH
        refine wpAnyH_take (i := 0) (v := ?_) rfl (by kernel_rfl) (by kernel_rfl) (by kernel_rfl) (fun _ _ _ h => h) (Or.inl ⟨by kernel_rfl, ?_⟩) (by assumption) ?_
        rotate_left
        · intro X hX
          go_simp
          try with_reducible rfl
        try simp only [List.getElem_toArray, List.getElem_cons_zero]
        try simp only [Act.put, List.setIfInBounds_toArray, List.set_cons_zero, List.set_cons_succ]
        refine wpAnyH_take (i := 2) (v := ?_) rfl (by kernel_rfl) (by kernel_rfl) (by kernel_rfl) (fun _ _ _ h => h) (Or.inl ⟨by kernel_rfl, ?_⟩) (by assumption) ?_
        rotate_left
        · intro X hX
          go_simp
          try with_reducible rfl
        try simp only [List.getElem_toArray, List.getElem_cons_succ, List.getElem_cons_zero]
        try simp only [Act.put, List.setIfInBounds_toArray, List.set_cons_zero, List.set_cons_succ]
        refine wpAnyH_take (i := 3) (v := ?_) rfl (by kernel_rfl) (by kernel_rfl) (by kernel_rfl) (fun _ _ _ h => h) (Or.inl ⟨by kernel_rfl, ?_⟩) (by assumption) ?_
        rotate_left
        · intro X hX
          go_simp
          try with_reducible rfl
        try simp only [List.getElem_toArray, List.getElem_cons_succ, List.getElem_cons_zero]
        try simp only [Act.put, List.setIfInBounds_toArray, List.set_cons_zero, List.set_cons_succ]
        refine wpAnyH_take (i := 4) (v := ?_) rfl (by kernel_rfl) (by kernel_rfl) (by kernel_rfl) (fun _ _ _ h => h) (Or.inl ⟨by kernel_rfl, ?_⟩) (by assumption) ?_
        rotate_left
        · intro X hX
          go_simp
          try with_reducible rfl
        try simp only [List.getElem_toArray, List.getElem_cons_succ, List.getElem_cons_zero]
        try simp only [Act.put, List.setIfInBounds_toArray, List.set_cons_zero, List.set_cons_succ]
        refine wpAnyH_take (i := 5) (v := .slice AR M.length cR) rfl (by kernel_rfl) (by kernel_rfl) (by kernel_rfl) (fun _ _ _ h => h) (Or.inl ⟨by kernel_rfl, ?_⟩) (by assumption) ?_
        · intro X hX
          obtain s1 := hX
          go_simp
        try simp only [List.getElem_toArray, List.getElem_cons_succ, List.getElem_cons_zero]
        try simp only [Act.put, List.setIfInBounds_toArray, List.set_cons_zero, List.set_cons_succ]
        refine wpAnyH_ready (rs := [1]) (by kernel_rfl) (by simp) (AllReadyH.cons rfl (fun K hK => ?_) AllReadyH.nil)
        · go_simp
          refine (HAL.out _ hQ).mono ?_
          rintro e wm ⟨A11, c11, ms, rfl, hM, hmm, hb⟩
          replace hQ := hQ.trans (hb.mono hQ.size)
          clear hb
          have hH := HS.out _ hQ
          go_wp2_with fail
          refine hK.out _ _ ?_ (fun hHeld => ?_)
          · with_reducible exact hH
          clear hK K hH
          try simp only [List.getElem_toArray, List.getElem_cons_succ, List.getElem_cons_zero]
          try simp only [Act.put, List.setIfInBounds_toArray, List.set_cons_zero, List.set_cons_succ]
          refine wpAnyH_ready (rs := [6]) (by kernel_rfl) (by simp) (AllReadyH.cons rfl (fun K hK => ?_) AllReadyH.nil)
          · go_simp
            refine (sameAll_any hM (HMR.out _ hQ) (hmm.trans hmsr.symm)).mono ?_
            rintro e wm ⟨rfl, hb⟩
            replace hQ := hQ.trans (hb.mono hQ.size)
            replace hM := hM.below hb
            clear hb
            have hH := HS.out _ hQ
            go_wp2_with fail
            refine hK.out _ _ ?_ (fun hHeld => ?_)
            · with_reducible exact hH
            clear hK K hH
            try simp only [List.getElem_toArray, List.getElem_cons_succ, List.getElem_cons_zero]
            try simp only [Act.put, List.setIfInBounds_toArray, List.set_cons_zero, List.set_cons_succ]
            refine wpAnyH_take (i := 7) (v := ?_) rfl (by kernel_rfl) (by kernel_rfl) (by kernel_rfl) (fun _ _ _ h => h) (Or.inl ⟨by kernel_rfl, ?_⟩) (by assumption) ?_
            rotate_left
            · intro X hX
              go_simp
              try with_reducible rfl
            try simp only [List.getElem_toArray, List.getElem_cons_succ, List.getElem_cons_zero]
            try simp only [Act.put, List.setIfInBounds_toArray, List.set_cons_zero, List.set_cons_succ]
            refine wpAnyH_ready (rs := [8]) (by kernel_rfl) (by simp) (AllReadyH.cons rfl (fun K hK => ?_) AllReadyH.nil)
            · go_simp
              refine (works_any _).mono ?_
              rintro e wm ⟨rfl, hb⟩
              replace hQ := hQ.trans (hb.mono hQ.size)
              replace hM := hM.below hb
              clear hb
              have hH := HS.out _ hQ
              go_wp2_with fail
              refine hK.out _ _ ?_ (fun hHeld => ?_)
              · with_reducible exact hH
              clear hK K hH
              try simp only [List.getElem_toArray, List.getElem_cons_succ, List.getElem_cons_zero]
              try simp only [Act.put, List.setIfInBounds_toArray, List.set_cons_zero, List.set_cons_succ]
              refine wpAnyH_take (i := 9) (v := ?_) rfl (by kernel_rfl) (by kernel_rfl) (by kernel_rfl) (fun _ _ _ h => h) (Or.inl ⟨by kernel_rfl, ?_⟩) (by assumption) ?_
              rotate_left
              · intro X hX
                go_simp
                try with_reducible rfl
              try simp only [List.getElem_toArray, List.getElem_cons_succ, List.getElem_cons_zero]
              try simp only [Act.put, List.setIfInBounds_toArray, List.set_cons_zero, List.set_cons_succ]
              refine wpAnyH_take (i := 10) (v := ?_) rfl (by kernel_rfl) (by kernel_rfl) (by kernel_rfl) (fun _ _ _ h => h) (Or.inl ⟨by kernel_rfl, ?_⟩) (by assumption) ?_
              rotate_left
              · intro X hX
                go_simp
                try with_reducible rfl
              try simp only [List.getElem_toArray, List.getElem_cons_succ, List.getElem_cons_zero]
              try simp only [Act.put, List.setIfInBounds_toArray, List.set_cons_zero, List.set_cons_succ]
              refine wpAnyH_done (by kernel_rfl) ?_ _
              go_wp2_with fail
              go_ret
              exact ⟨rfl, HB1.out.trans ((hbl.trans (hQ.mono hbl.size)).mono HB1.out.size)⟩
end Go.Proofs.Ytlejlmlgcehjiaa.netsPlayW
