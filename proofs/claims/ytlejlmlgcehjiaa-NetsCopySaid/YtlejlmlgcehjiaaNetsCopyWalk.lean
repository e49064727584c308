/-
  The walk of the law NetsCopy.
-/
import Derived.Test.YtlejlmlgcehjiaaNFull
import Derived.Test.YtlejlmlgcehjiaaNOpens
import Derived.Test.YtlejlmlgcehjiaaRows
namespace Go.Proofs.Ytlejlmlgcehjiaa.netsCopyW
open Go.RowKit
theorem send_few {M : List Net.Ml} {m : Net.Ml} (h : M.length ≤ 200) : Net.send M m = (M ++ [m], true) := by
  unfold Net.send
  rw [if_neg (by omega)]
theorem copy_few {M : List Net.Ml} {k : Nat} (hk : k < M.length) (h : M.length ≤ 200) : Net.copy M (k : Int) = (M ++ [M[k]], true) := by
  unfold Net.copy
  rw [if_pos ⟨by omega, by omega⟩, Int.toNat_natCast, getD_at hk, send_few h]
theorem take_at {M : List Net.Ml} {k : Nat} (hk : k < M.length) : Net.take M (k : Int) = (M.eraseIdx k, M[k], true) := by
  unfold Net.take
  rw [if_pos ⟨by omega, by omega⟩, Int.toNat_natCast, getD_at hk]
theorem last_at (M : List Net.Ml) (m : Net.Ml) {k : Nat} (hk : k < M.length) : Net.take ((M ++ [m]).eraseIdx k) ((M.length : Int) - 1) = (M.eraseIdx k, m, true) := by
  obtain ⟨L, hL⟩ : ∃ L, M.length = L + 1 := ⟨M.length - 1, by omega⟩
  have h1 : (M ++ [m]).eraseIdx k = M.eraseIdx k ++ [m] := List.eraseIdx_append_of_lt_length hk [m]
  have h2 : (M.eraseIdx k).length = L := by rw [List.length_eraseIdx_of_lt hk]; omega
  rw [h1, show (M.length : Int) - 1 = (L : Int) by omega]
  have h3 : L < (M.eraseIdx k ++ [m]).length := by rw [List.length_append, h2]; simp
  rw [take_at h3]
  congr 1
  · rw [List.eraseIdx_append_of_length_le (by omega), h2, Nat.sub_self]; simp
  · congr 1
    rw [List.getElem_append_right (by omega)]
    simp [h2]
def lst (A : Option Addr) (c : Nat) (m : MM) : Value := .slice A m.es.length c
set_option maxRecDepth 100000 in
set_option maxHeartbeats 2000000 in
theorem walk (v : Value) (l : List MM) (at_ : Nat) (w : World) (h : MRead w v l) (hv : ∀ m ∈ l, ∃ A c, m.v = .slice A m.es.length c) (hat : at_ < 256) : Calls Try.prog 8 #[v, .int .u8 (at_ : Int)] w fun e w' => e = .returned (.bool true) ∧ Below w.heap.size w w' := by
  have HR := Lib.hid h
  have HV := Lib.hid hv
  obtain ⟨A, c, rfl, hc1, hc2, hc3⟩ := h
  clear hv hc3
  unfold maxLen at hc2
  by_cases hbad : 100 < l.length ∨ l.length = 0
  · rcases hbad with h1 | h1
    · have g1 : (100 : Int) < (l.length : Int) := by omega
      go_enter Try.func8, Try.ntmps8
      go_wp2_with fail
      refine (works_any w).mono ?_
      rintro e w5 ⟨rfl, hb5⟩
      go_wp2_with fail
      go_ret
      exact ⟨rfl, hb5⟩
    · have h1' := h1
      obtain rfl : l = [] := List.eq_nil_of_length_eq_zero h1
      clear h1 h1'
      simp only [List.length_nil] at *
      go_enter Try.func8, Try.ntmps8
      go_wp2_with fail
      refine (works_any w).mono ?_
      rintro e w5 ⟨rfl, hb5⟩
      go_wp2_with fail
      go_ret
      exact ⟨rfl, hb5⟩
  · have g1 : ¬ ((100 : Int) < (l.length : Int)) := by omega
    have g2 : ((l.length : Int) == 0) = false := beq_eq_false_iff_ne.2 (by omega)
    have g3 : l.length ≤ 100 := by omega
    have g4 : 0 < l.length := by omega
    clear hbad
    go_enter Try.func8, Try.ntmps8
    go_wp2_with fail
    refine (on_new w).mono ?_
    rintro e w2 ⟨n, S, rfl, H, HBN, _⟩
    clear HBN
    go_wp2_with fail
    go_loopg [4, 6] l.length (fun kx s4 s6 wr => ∃ (i : Nat) (wB : World) (SB : Nat → Prop), i ≤ l.length ∧ s6 = .int .i64 (i : Int) ∧ s4 = .bool false ∧ l.length - i ≤ kx ∧ Hid (∀ m ∈ l.take i, m.es.length ≤ 4000) ∧ Hid (On w wB SB n ((l.take i).map MM.ml) wr))
    case atStart => exact ⟨0, w2, S, Nat.zero_le _, rfl, rfl, by omega, (fun m hm => by simp at hm), H⟩
    case round =>
      obtain ⟨i, wB, SB, hil, rfl, rfl, hik, HSM, HO⟩ := hrel
      clear H
      by_cases hlt : i < l.length
      · obtain ⟨A0, c0, hv0, hv3, hv4, hcl, hEn⟩ := HR.out
        injection hv0 with hv1 _ hv2
        subst hv1 hv2
        obtain ⟨b, o, rfl, hbl, hcells⟩ := hcl (by omega)
        have hcx := hcells i hlt
        have hEx := hEn _ (List.getElem_mem hlt)
        obtain ⟨Am, cm, hvm⟩ := HV.out _ (List.getElem_mem hlt)
        have hlk : (i : Int) < (l.length : Int) := by omega
        have HTK := Lib.hid (List.take_succ_eq_append_getElem hlt)
        clear hcells hEn hcl hv3 hv4
        generalize l[i] = x at *
        obtain ⟨xh, xv, xes⟩ := x
        dsimp only at hcx hEx hvm
        subst hvm
        have hOB := HO.out.bel
        have HLD := Lib.hid (fun X (hX : Below w.heap.size w X) => run_load_mail (W := X) (g := b) (o := o + i * 18) (h := xh) (v := .slice Am xes.length cm) fun j hj => (hX.cell (p := ⟨b, o + i * 18 + j, none⟩) hbl).trans (hcx j hj))
        have HLD1 := Lib.hid (HLD.out wr hOB)
        have HG := Lib.hid (great_any (lit_act (X := wr) (x := av0 xh Am cm xes) (hEx.below hOB)))
        have hbz := below_alloc1 wr (.cells (acells (av0 xh Am cm xes)).toArray 38)
        have HBZ := Lib.hid hbz
        have HEX := Lib.hid hEx
        clear hcx hEx hOB hbz
        go_wp2_with (first | (refine wpList_load_run rfl 36 _ rfl ⟨b, o + i * 18, none⟩ rfl HLD1.out ?_) | (refine wpList_build_known rfl 38 _ rfl #[(1, .agg (mcells xh (.slice Am xes.length cm)).toArray)] (by simp [Act.eval, Act.put]) _ (built_act xh Am cm xes) ?_) | (refine wpList_buildSlice_known rfl 22 1 _ rfl #[(0, .agg (acells (av0 xh Am cm xes)).toArray)] (by simp [Act.eval, Act.put]) (slice_act _ _) ?_))
        refine HG.out.mono ?_
        rintro e w3 ⟨bb, rfl, hs, hb3⟩
        have HO3 : Hid (On w wB SB n ((l.take i).map MM.ml) w3) := (HO.out.below HBZ.out).below hb3
        clear HG HLD1 HBZ hb3
        cases bb with
        | true =>
          go_wp2_with fail
          go_ret
          exact ⟨rfl, HO3.out.bel⟩
        | false =>
          have hx4 : xes.length ≤ 4000 := (hs rfl).1 _ (List.mem_cons_self)
          have HLD2 := Lib.hid (HLD.out w3 HO3.out.bel)
          clear hs
          have hln : ((l.take i).map MM.ml).length ≤ 200 := by rw [List.length_map, List.length_take]; omega
          go_wp2_with (refine wpList_load_run rfl 36 _ rfl ⟨b, o + i * 18, none⟩ rfl HLD2.out ?_)
          refine (on_send xh HO3 (HEX.out.below HO3.out.bel) (by omega) (send_few hln)).mono ?_
          rintro e w4 ⟨rfl, H4⟩
          have HSM' : Hid (∀ m ∈ l.take (i + 1), m.es.length ≤ 4000) := fun m hm => by
            rw [HTK.out] at hm
            rcases List.mem_append.1 hm with hm | hm
            · exact HSM.out m hm
            · obtain rfl : m = ⟨xh, .slice Am xes.length cm, xes⟩ := by simpa using hm
              exact hx4
          have H4' : Hid (On w wB SB n ((l.take (i + 1)).map MM.ml) w4) := by
            rw [HTK.out, List.map_append]
            exact H4
          clear H4 HLD HLD2 hln
          go_wp2_with fail
          go_roundg (l.length - (i + 1))
          case measure => omega
          case rel => exact ⟨i + 1, wB, SB, by omega, by go_num, rfl, by omega, HSM', H4'⟩
      · obtain rfl : i = l.length := by omega
        rw [List.take_length] at HSM HO
        have hlk : ¬ ((l.length : Int) < (l.length : Int)) := by omega
        obtain ⟨k, hk⟩ : ∃ k, k = at_ % l.length := ⟨_, rfl⟩
        have hkl : k < l.length := by rw [hk]; exact Nat.mod_lt _ g4
        have hmod : Int.tmod (at_ : Int) (l.length : Int) = (k : Int) := by rw [Int.tmod_eq_emod_of_nonneg (by omega), hk]; omega
        obtain ⟨A0, c0, hv0, hv3, hv4, hcl, hEn⟩ := HR.out
        injection hv0 with hv1 _ hv2
        subst hv1 hv2
        obtain ⟨b, o, rfl, hbl, hcells⟩ := hcl (by omega)
        have hcx := hcells k hkl
        have hEx := hEn _ (List.getElem_mem hkl)
        have hx4 := HSM.out _ (List.getElem_mem hkl)
        obtain ⟨M, HM⟩ : ∃ M, Hid (M = l.map MM.ml) := ⟨_, rfl⟩
        have HLM : Hid (M.length = l.length) := by rw [HM.out, List.length_map]; exact rfl
        have hkM : k < M.length := by rw [HLM.out]; exact hkl
        have hmk : M[k] = l[k].ml := by simp only [HM.out, List.getElem_map]
        rw [← HM.out] at HO
        obtain ⟨m, HMX⟩ : ∃ m, Hid (m = l[k]) := ⟨l[k], Lib.hid rfl⟩
        rw [← HMX.out] at hcx hEx hx4 hmk
        have HCP : Hid (Net.copy M (k : Int) = (M ++ [m.ml], true)) := by rw [← hmk]; exact copy_few hkM (by rw [HLM.out]; omega)
        have HT1 : Hid (Net.take (M ++ [m.ml]) (k : Int) = ((M ++ [m.ml]).eraseIdx k, m.ml, true)) := by
          rw [← hmk]
          refine (take_at (by rw [List.length_append]; omega)).trans ?_
          rw [List.getElem_append_left hkM]
        have HT2 : Hid (Net.take ((M ++ [m.ml]).eraseIdx k) ((l.length : Int) - 1) = (M.eraseIdx k, m.ml, true)) := by rw [← HLM.out]; exact last_at M m.ml hkM
        have HL1 : Hid ((M ++ [m.ml]).length = l.length + 1) := by unfold Hid; rw [List.length_append, HLM.out]; rfl
        obtain ⟨L9, HL9, hl9⟩ : ∃ L9, Hid ((M.eraseIdx k).length = L9) ∧ (l.length : Int) = (L9 : Int) + 1 := ⟨_, rfl, by rw [List.length_eraseIdx_of_lt hkM, HLM.out]; omega⟩
        have hwm : IntKind.i64.wrap ((l.length : Int) - 1) = (L9 : Int) := by rw [IntWalk.i64_in _ (by omega)]; omega
        have hT2 : (l.length : Int) - 1 = (L9 : Int) := by omega
        rw [hT2] at HT2
        have HHL := Lib.hid hl9
        have hii : (k : Int) < (l.length : Int) := by omega
        have HK := Lib.hid hk
        have HE := Lib.hid hEx
        have HCX := Lib.hid hcx
        have hw1 : IntKind.i64.wrap ((l.length : Int) + 1) = (l.length : Int) + 1 := IntWalk.i64_in _ (by omega)
        clear hk hmk hEx hcx hl9 hT2 HSM hEn hcl hcells HM HMX HV hv3 hv4 hkM HLM
        go_wp2_with fail
        refine (on_copy (k : Int) HO HCP.out).mono ?_
        rintro e w5 ⟨rfl, H5⟩
        go_wp2_with fail
        refine (on_len' H5 HL1).mono ?_
        rintro e w6 ⟨rfl, rfl⟩
        have hcc : ((l.length + 1 : Nat) : Int) = (l.length : Int) + 1 := by omega
        go_wp2_with fail
        refine (on_take (k : Int) H5 HT1.out).mono ?_
        rintro e w7 ⟨A7, c7, S7, rfl, H7, HV7, HF7, HL7⟩
        have HF7 : Hid (Free w S7 (lst A7 c7 m) m.es w7) := HF7
        obtain ⟨w8, st8, k8, b8, l8⟩ := box_mail w7 m.h A7 m.es.length c7
        have k8 : w8.heap[w7.heap.size]? = some (.cells (mcells m.h (lst A7 c7 m)).toArray 36 (0, 0)) := k8
        have H8 : Hid (On w w8 S7 n ((M ++ [m.ml]).eraseIdx k) w8) := H7.out.rebase HL7.out b8
        have HE8 := Lib.hid (HF7.out.1.below b8)
        have hb8 := H8.out.bel
        have HB8 := Lib.hid hb8
        have ST8 := Lib.hid st8
        have HK8 := Lib.hid k8
        have HW7 : Hid (w.heap.size ≤ w7.heap.size) := H7.out.bel.size
        have NS8 : Hid (¬ S7 w7.heap.size) := fun e => by have := HL7.out _ e; omega
        have HFR : Hid (∀ j, (lst A7 c7 m).ownBlock = some j → ¬ S7 j ∧ w.heap.size ≤ j ∧ j < w7.heap.size) := fun j hj => ⟨(HF7.out.2 j hj).1, (HF7.out.2 j hj).2, (HF7.out.1.lt hj).2⟩
        have hbd : Below w.heap.size w w8.drew := hb8.trans (Below.refl _ _).drew
        have HSM := Lib.hid (sameMail_any (w := w8.drew) m.h (HE8.out.ents.below (Below.refl _ _).drew) (HE.out.below hbd))
        have HSS := Lib.hid (fun X (hX : Below w8.drew.heap.size w8.drew X) => (And.intro ((hX.block w7.heap.size l8).trans k8) (fun j hj => ((hbd.trans (hX.mono hbd.size)).cell (p := ⟨b, o + k * 18 + j, none⟩) hbl).trans (HCX.out j hj)) : X.heap[w7.heap.size]? = some (.cells (mcells m.h (lst A7 c7 m)).toArray 36 (0, 0)) ∧ ∀ j, j < 18 → X.cell? ⟨b, o + k * 18 + j, none⟩ = (mcells m.h m.v)[j]?))
        clear st8 k8 b8 H7 HV7 HF7 HL7 H5 HO hb8 hbd HCP HT1 HL1 hcc
        go_wp2_with (refine wpList_store_run rfl 36 _ _ rfl ⟨w7.heap.size, 0, none⟩ _ rfl rfl ST8.out ?_)
        go_upto_region 15 with fail
        go_cut [73] (fun u wx => u = .bool false ∧ Hid (Below w8.heap.size w8 wx))
        case first =>
          as_aux_lemma =>
            refine wp_region_held_drew (S := fun X => X.heap[w7.heap.size]? = some (.cells (mcells m.h (lst A7 c7 m)).toArray 36 (0, 0)) ∧ ∀ j, j < 18 → X.cell? ⟨b, o + k * 18 + j, none⟩ = (mcells m.h m.v)[j]?) (by kernel_rfl) (HSS.out _ (Below.refl _ _)) (fun hS0 => ?_)
            refine wpAnyH_take (i := 0) (v := ?_) rfl (by kernel_rfl) (by kernel_rfl) (by kernel_rfl) (fun _ _ _ h => h) (Or.inl ⟨by rfl, ?_⟩) (by assumption) ?_
            rotate_left
            · intro X hX
              go_simp
              try with_reducible rfl
            try simp only [Act.put, List.setIfInBounds_toArray, List.set_cons_zero, List.set_cons_succ, List.getElem_toArray, List.getElem_cons_zero]
            refine wpAnyH_take (i := 1) (v := ?_) rfl (by kernel_rfl) (by kernel_rfl) (by kernel_rfl) (fun _ _ _ h => h) (Or.inl ⟨by rfl, ?_⟩) (by assumption) ?_
            rotate_left
            · intro X hX
              go_simp
              try with_reducible rfl
            try simp only [Act.put, List.setIfInBounds_toArray, List.set_cons_zero, List.set_cons_succ, List.getElem_toArray, List.getElem_cons_succ, List.getElem_cons_zero]
            refine wpAnyH_take (i := 2) (v := ?_) rfl (by kernel_rfl) (by kernel_rfl) (by kernel_rfl) (fun _ _ _ h => h) (Or.inl ⟨by rfl, ?_⟩) (by assumption) ?_
            rotate_left
            · intro X hX
              go_simp
              try with_reducible rfl
            try simp only [Act.put, List.setIfInBounds_toArray, List.set_cons_zero, List.set_cons_succ, List.getElem_toArray, List.getElem_cons_succ, List.getElem_cons_zero]
            refine wpAnyH_take (i := 3) (v := .agg (mcells m.h (lst A7 c7 m)).toArray) rfl (by kernel_rfl) (by kernel_rfl) (by kernel_rfl) (fun _ _ _ h => h) (Or.inl ⟨by rfl, ?_⟩) (by assumption) ?_
            · intro X hX
              exact run_exec_load 36 (.tmp 8) rfl ⟨w7.heap.size, 0, none⟩ rfl (load_box hX.1)
            try simp only [Act.put, List.setIfInBounds_toArray, List.set_cons_zero, List.set_cons_succ, List.getElem_toArray, List.getElem_cons_succ, List.getElem_cons_zero]
            refine wpAnyH_take (i := 4) (v := ?_) rfl (by kernel_rfl) (by kernel_rfl) (by kernel_rfl) (fun _ _ _ h => h) (Or.inl ⟨by rfl, ?_⟩) (by assumption) ?_
            rotate_left
            · intro X hX
              go_simp
              try with_reducible rfl
            try simp only [Act.put, List.setIfInBounds_toArray, List.set_cons_zero, List.set_cons_succ, List.getElem_toArray, List.getElem_cons_succ, List.getElem_cons_zero]
            refine wpAnyH_take (i := 5) (v := ?_) rfl (by kernel_rfl) (by kernel_rfl) (by kernel_rfl) (fun _ _ _ h => h) (Or.inl ⟨by rfl, ?_⟩) (by assumption) ?_
            rotate_left
            · intro X hX
              go_simp
              try with_reducible rfl
            try simp only [Act.put, List.setIfInBounds_toArray, List.set_cons_zero, List.set_cons_succ, List.getElem_toArray, List.getElem_cons_succ, List.getElem_cons_zero]
            refine wpAnyH_take (i := 6) (v := ?_) rfl (by kernel_rfl) (by kernel_rfl) (by kernel_rfl) (fun _ _ _ h => h) (Or.inl ⟨by rfl, ?_⟩) (by assumption) ?_
            rotate_left
            · intro X hX
              go_simp
              try with_reducible rfl
            try simp only [Act.put, List.setIfInBounds_toArray, List.set_cons_zero, List.set_cons_succ, List.getElem_toArray, List.getElem_cons_succ, List.getElem_cons_zero]
            refine wpAnyH_take (i := 7) (v := .agg (mcells m.h (m.v)).toArray) rfl (by kernel_rfl) (by kernel_rfl) (by kernel_rfl) (fun _ _ _ h => h) (Or.inl ⟨by rfl, ?_⟩) (by assumption) ?_
            · intro X hX
              exact run_exec_load 36 (.tmp 69) rfl ⟨b, o + k * 18, none⟩ rfl (run_load_mail hX.2)
            try simp only [Act.put, List.setIfInBounds_toArray, List.set_cons_zero, List.set_cons_succ, List.getElem_toArray, List.getElem_cons_succ, List.getElem_cons_zero]
            refine wpAnyH_ready (rs := [8]) (by kernel_rfl) (by simp) (AllReadyH.cons rfl (fun K hK => ?_) AllReadyH.nil)
            go_simp
            refine HSM.out.mono ?_
            rintro e x1 ⟨rfl, HB1⟩
            go_wp2_with fail
            refine hK.out _ _ ?_ (fun hHeld => ?_)
            · with_reducible exact (HSS.out _ (HB1))
            clear hK K
            try simp only [Act.put, List.setIfInBounds_toArray, List.set_cons_zero, List.set_cons_succ, List.getElem_toArray, List.getElem_cons_succ, List.getElem_cons_zero]
            skip
            refine wpAnyH_take (i := 9) (v := ?_) rfl (by kernel_rfl) (by kernel_rfl) (by kernel_rfl) (fun _ _ _ h => h) (Or.inl ⟨by rfl, ?_⟩) (by assumption) ?_
            rotate_left
            · intro X hX
              go_simp
              try with_reducible rfl
            try simp only [Act.put, List.setIfInBounds_toArray, List.set_cons_zero, List.set_cons_succ, List.getElem_toArray, List.getElem_cons_succ, List.getElem_cons_zero]
            refine wpAnyH_take (i := 10) (v := ?_) rfl (by kernel_rfl) (by kernel_rfl) (by kernel_rfl) (fun _ _ _ h => h) (Or.inl ⟨by rfl, ?_⟩) (by assumption) ?_
            rotate_left
            · intro X hX
              go_simp
              try with_reducible rfl
            try simp only [Act.put, List.setIfInBounds_toArray, List.set_cons_zero, List.set_cons_succ, List.getElem_toArray, List.getElem_cons_succ, List.getElem_cons_zero]
            refine wpAnyH_done (by kernel_rfl) ?_ _
            go_wp2_with fail
            go_meet
            case rel => exact ⟨rfl, Lib.hid (((Below.refl w8.heap.size w8).drew).trans HB1)⟩
        case rest =>
          obtain ⟨rfl, HBC⟩ := hcut
          have HLD9 := Lib.hid (load_box ((HBC.out.block w7.heap.size l8).trans HK8.out))
          have HSP := Lib.hid (spoil_any (w := wc) m.h (HE8.out.below HBC.out))
          clear HSM HSS
          go_wp2_with (refine wpList_load_run rfl 36 _ rfl ⟨w7.heap.size, 0, none⟩ rfl HLD9.out ?_)
          refine HSP.out.mono ?_
          rintro e w10 ⟨rfl, hsp⟩
          have H10 : Hid (On w w8 S7 n ((M ++ [m.ml]).eraseIdx k) wc) := H8.out.below HBC.out
          obtain ⟨S10, i1, i2, i3⟩ := H10.out.skip_ (w' := w10) (fun j hj => ⟨(HFR.out j hj.2).2.1, Nat.lt_trans (HFR.out j hj.2).2.2 l8, (HFR.out j hj.2).1⟩) hsp.out
          obtain ⟨j1, j2⟩ := i3 w7.heap.size l8 NS8.out (fun e => by have := (HFR.out _ e.2).2.2; omega)
          have HI1 := Lib.hid i1
          have k10 := j2.trans HK8.out
          clear H10 HLD9 hsp i1 i3 j2 H8 HE8 HFR HBC NS8 HK8 HB8 ST8
          go_wp2_with fail
          refine (on_take (L9 : Int) HI1 HT2.out).mono ?_
          rintro e w11 ⟨A9, c9, S11, rfl, H11, HV11, HF11, HL11⟩
          have HF11 : Hid (Free w S11 (lst A9 c9 m) m.es w11) := HF11
          have l10 := lt_of_block k10
          obtain ⟨j3, j4⟩ := HV11.out.off l10 j1
          have k11 := j4.trans k10
          have l11 := lt_of_block k11
          have hst := run_storeVar_row (P := Try.prog) w11 w7.heap.size 36 36 _ (mcells m.h (lst A9 c9 m)).toArray k11 (by kernel_rfl) rfl (by simp [mcells, lst, Value.oneCell'])
          obtain ⟨w12, hw12⟩ : ∃ w12, w12 = w11.setRow w7.heap.size (mcells m.h (lst A9 c9 m)).toArray := ⟨_, rfl⟩
          rw [← hw12] at hst
          have f12 : Foot (fun j => j = w7.heap.size) w11 w12 := by rw [hw12]; exact Foot.row (fun j => j = w7.heap.size) _ _ _ rfl
          have k12 : w12.heap[w7.heap.size]? = some (.cells (mcells m.h (lst A9 c9 m)).toArray 36 (0, 0)) := by rw [hw12]; exact setRow_heap _ _ _ _ _ _ k11
          have h78 : w.heap.size ≤ w7.heap.size := HW7.out
          obtain ⟨S12, o1, o2, o3, o4, _⟩ := H11.out.wrote h78 l11 j3 f12
          have HE12 : Ents w12 (lst A9 c9 m) m.es := (HF11.out.1.foot f12 fun j hj e => HF11.out.1.ne_mail k11 hj e).ents
          have G0 : Hid (On w w12 S12 n (M.eraseIdx k) w12.drew) := o1.drewN 1
          have HSM2 := Lib.hid (sameMail_any (w := w12.drew) m.h (HE12.below (Below.refl _ _).drew) (HE.out.below G0.out.bel))
          have HSS2 := Lib.hid (fun X (h : Hid (On w w12 S12 n (M.eraseIdx k) X)) => (And.intro ((h.out.off o3 o2).trans k12) (fun j hj => (h.out.bel.cell (p := ⟨b, o + k * 18 + j, none⟩) hbl).trans (HCX.out j hj)) : X.heap[w7.heap.size]? = some (.cells (mcells m.h (lst A9 c9 m)).toArray 36 (0, 0)) ∧ ∀ j, j < 18 → X.cell? ⟨b, o + k * 18 + j, none⟩ = (mcells m.h m.v)[j]?))
          have HST := Lib.hid hst
          clear hst hw12 f12 k12 k11 k10 j1 j3 j4 o1 o2 o3 o4 HE12 HF11 HV11 HL11 H11 HI1 l10 l11 HT2 i2
          go_wp2_with (refine wpList_store_run rfl 36 _ _ rfl ⟨w7.heap.size, 0, none⟩ _ rfl rfl HST.out ?_)
          go_upto_region 19 with fail
          go_cut [4] (fun u wx => u = .bool true ∧ Hid (Below w.heap.size w wx))
          case first =>
            as_aux_lemma =>
              refine wp_region_held_drew (S := fun X => X.heap[w7.heap.size]? = some (.cells (mcells m.h (lst A9 c9 m)).toArray 36 (0, 0)) ∧ ∀ j, j < 18 → X.cell? ⟨b, o + k * 18 + j, none⟩ = (mcells m.h m.v)[j]?) (by kernel_rfl) (HSS2.out _ G0) (fun hS0 => ?_)
              refine wpAnyH_take (i := 0) (v := ?_) rfl (by kernel_rfl) (by kernel_rfl) (by kernel_rfl) (fun _ _ _ h => h) (Or.inl ⟨by rfl, ?_⟩) (by assumption) ?_
              rotate_left
              · intro X hX
                go_simp
                try with_reducible rfl
              try simp only [Act.put, List.setIfInBounds_toArray, List.set_cons_zero, List.set_cons_succ, List.getElem_toArray, List.getElem_cons_zero]
              refine wpAnyH_take (i := 1) (v := ?_) rfl (by kernel_rfl) (by kernel_rfl) (by kernel_rfl) (fun _ _ _ h => h) (Or.inl ⟨by rfl, ?_⟩) (by assumption) ?_
              rotate_left
              · intro X hX
                go_simp
                try with_reducible rfl
              try simp only [Act.put, List.setIfInBounds_toArray, List.set_cons_zero, List.set_cons_succ, List.getElem_toArray, List.getElem_cons_succ, List.getElem_cons_zero]
              refine wpAnyH_take (i := 2) (v := .agg (mcells m.h (lst A9 c9 m)).toArray) rfl (by kernel_rfl) (by kernel_rfl) (by kernel_rfl) (fun _ _ _ h => h) (Or.inl ⟨by rfl, ?_⟩) (by assumption) ?_
              · intro X hX
                exact run_exec_load 36 (.tmp 8) rfl ⟨w7.heap.size, 0, none⟩ rfl (load_box hX.1)
              try simp only [Act.put, List.setIfInBounds_toArray, List.set_cons_zero, List.set_cons_succ, List.getElem_toArray, List.getElem_cons_succ, List.getElem_cons_zero]
              refine wpAnyH_take (i := 3) (v := ?_) rfl (by kernel_rfl) (by kernel_rfl) (by kernel_rfl) (fun _ _ _ h => h) (Or.inl ⟨by rfl, ?_⟩) (by assumption) ?_
              rotate_left
              · intro X hX
                go_simp
                try with_reducible rfl
              try simp only [Act.put, List.setIfInBounds_toArray, List.set_cons_zero, List.set_cons_succ, List.getElem_toArray, List.getElem_cons_succ, List.getElem_cons_zero]
              refine wpAnyH_take (i := 4) (v := ?_) rfl (by kernel_rfl) (by kernel_rfl) (by kernel_rfl) (fun _ _ _ h => h) (Or.inl ⟨by rfl, ?_⟩) (by assumption) ?_
              rotate_left
              · intro X hX
                go_simp
                try with_reducible rfl
              try simp only [Act.put, List.setIfInBounds_toArray, List.set_cons_zero, List.set_cons_succ, List.getElem_toArray, List.getElem_cons_succ, List.getElem_cons_zero]
              refine wpAnyH_take (i := 5) (v := ?_) rfl (by kernel_rfl) (by kernel_rfl) (by kernel_rfl) (fun _ _ _ h => h) (Or.inl ⟨by rfl, ?_⟩) (by assumption) ?_
              rotate_left
              · intro X hX
                go_simp
                try with_reducible rfl
              try simp only [Act.put, List.setIfInBounds_toArray, List.set_cons_zero, List.set_cons_succ, List.getElem_toArray, List.getElem_cons_succ, List.getElem_cons_zero]
              refine wpAnyH_take (i := 6) (v := .agg (mcells m.h (m.v)).toArray) rfl (by kernel_rfl) (by kernel_rfl) (by kernel_rfl) (fun _ _ _ h => h) (Or.inl ⟨by rfl, ?_⟩) (by assumption) ?_
              · intro X hX
                exact run_exec_load 36 (.tmp 89) rfl ⟨b, o + k * 18, none⟩ rfl (run_load_mail hX.2)
              try simp only [Act.put, List.setIfInBounds_toArray, List.set_cons_zero, List.set_cons_succ, List.getElem_toArray, List.getElem_cons_succ, List.getElem_cons_zero]
              refine wpAnyH_ready (rs := [7]) (by kernel_rfl) (by simp) (AllReadyH.cons rfl (fun K hK => ?_) AllReadyH.nil)
              go_simp
              refine HSM2.out.mono ?_
              rintro e x2 ⟨rfl, HB2⟩
              have G2 := Lib.hid (G0.out.below HB2)
              go_wp2_with fail
              refine hK.out _ _ ?_ (fun hHeld => ?_)
              · with_reducible exact (HSS2.out _ G2)
              clear hK K
              try simp only [Act.put, List.setIfInBounds_toArray, List.set_cons_zero, List.set_cons_succ, List.getElem_toArray, List.getElem_cons_succ, List.getElem_cons_zero]
              skip
              refine wpAnyH_take (i := 8) (v := ?_) rfl (by kernel_rfl) (by kernel_rfl) (by kernel_rfl) (fun _ _ _ h => h) (Or.inl ⟨by rfl, ?_⟩) (by assumption) ?_
              rotate_left
              · intro X hX
                go_simp
                try with_reducible rfl
              try simp only [Act.put, List.setIfInBounds_toArray, List.set_cons_zero, List.set_cons_succ, List.getElem_toArray, List.getElem_cons_succ, List.getElem_cons_zero]
              refine wpAnyH_take (i := 9) (v := ?_) rfl (by kernel_rfl) (by kernel_rfl) (by kernel_rfl) (fun _ _ _ h => h) (Or.inl ⟨by rfl, ?_⟩) (by assumption) ?_
              rotate_left
              · intro X hX
                go_simp
                try with_reducible rfl
              try simp only [Act.put, List.setIfInBounds_toArray, List.set_cons_zero, List.set_cons_succ, List.getElem_toArray, List.getElem_cons_succ, List.getElem_cons_zero]
              refine wpAnyH_take (i := 10) (v := ?_) rfl (by kernel_rfl) (by kernel_rfl) (by kernel_rfl) (fun _ _ _ h => h) (Or.inl ⟨by rfl, ?_⟩) (by assumption) ?_
              rotate_left
              · intro X hX
                go_simp
                try with_reducible rfl
              try simp only [Act.put, List.setIfInBounds_toArray, List.set_cons_zero, List.set_cons_succ, List.getElem_toArray, List.getElem_cons_succ, List.getElem_cons_zero]
              refine wpAnyH_take (i := 12) (v := ?_) rfl (by kernel_rfl) (by kernel_rfl) (by kernel_rfl) (fun _ _ _ h => h) (Or.inl ⟨by rfl, ?_⟩) (by assumption) ?_
              rotate_left
              · intro X hX
                go_simp
                try with_reducible rfl
              try simp only [Act.put, List.setIfInBounds_toArray, List.set_cons_zero, List.set_cons_succ, List.getElem_toArray, List.getElem_cons_succ, List.getElem_cons_zero]
              refine wpAnyH_take (i := 13) (v := ?_) rfl (by kernel_rfl) (by kernel_rfl) (by kernel_rfl) (fun _ _ _ h => h) (Or.inl ⟨by rfl, ?_⟩) (by assumption) ?_
              rotate_left
              · intro X hX
                go_simp
                try with_reducible rfl
              try simp only [Act.put, List.setIfInBounds_toArray, List.set_cons_zero, List.set_cons_succ, List.getElem_toArray, List.getElem_cons_succ, List.getElem_cons_zero]
              refine wpAnyH_take (i := 14) (v := ?_) rfl (by kernel_rfl) (by kernel_rfl) (by kernel_rfl) (fun _ _ _ h => h) (Or.inl ⟨by rfl, ?_⟩) (by assumption) ?_
              rotate_left
              · intro X hX
                go_simp
                try with_reducible rfl
              try simp only [Act.put, List.setIfInBounds_toArray, List.set_cons_zero, List.set_cons_succ, List.getElem_toArray, List.getElem_cons_succ, List.getElem_cons_zero]
              refine wpAnyH_ready (rs := [11]) (by kernel_rfl) (by simp) (AllReadyH.cons rfl (fun K hK => ?_) AllReadyH.nil)
              go_simp
              refine (on_len' G2 HL9).mono ?_
              rintro e x3 ⟨rfl, rfl⟩
              go_wp2_with fail
              refine hK.out _ _ ?_ (fun hHeld => ?_)
              · with_reducible exact (HSS2.out _ G2)
              clear hK K
              try simp only [Act.put, List.setIfInBounds_toArray, List.set_cons_zero, List.set_cons_succ, List.getElem_toArray, List.getElem_cons_succ, List.getElem_cons_zero]
              skip
              refine wpAnyH_take (i := 15) (v := ?_) rfl (by kernel_rfl) (by kernel_rfl) (by kernel_rfl) (fun _ _ _ h => h) (Or.inl ⟨by rfl, ?_⟩) (by assumption) ?_
              rotate_left
              · intro X hX
                go_simp
                try with_reducible rfl
              try simp only [Act.put, List.setIfInBounds_toArray, List.set_cons_zero, List.set_cons_succ, List.getElem_toArray, List.getElem_cons_succ, List.getElem_cons_zero]
              refine wpAnyH_take (i := 16) (v := ?_) rfl (by kernel_rfl) (by kernel_rfl) (by kernel_rfl) (fun _ _ _ h => h) (Or.inl ⟨by rfl, ?_⟩) (by assumption) ?_
              rotate_left
              · intro X hX
                go_simp
                try with_reducible rfl
              try simp only [Act.put, List.setIfInBounds_toArray, List.set_cons_zero, List.set_cons_succ, List.getElem_toArray, List.getElem_cons_succ, List.getElem_cons_zero]
              refine wpAnyH_take (i := 17) (v := ?_) rfl (by kernel_rfl) (by kernel_rfl) (by kernel_rfl) (fun _ _ _ h => h) (Or.inl ⟨by rfl, ?_⟩) (by assumption) ?_
              rotate_left
              · intro X hX
                go_simp
                try with_reducible rfl
              try simp only [Act.put, List.setIfInBounds_toArray, List.set_cons_zero, List.set_cons_succ, List.getElem_toArray, List.getElem_cons_succ, List.getElem_cons_zero]
              refine wpAnyH_ready (rs := [18]) (by kernel_rfl) (by simp) (AllReadyH.cons rfl (fun K hK => ?_) AllReadyH.nil)
              go_simp
              refine (works_any x2).mono ?_
              rintro e x4 ⟨rfl, HB4⟩
              have G4 := Lib.hid (G2.out.below HB4)
              go_wp2_with fail
              refine hK.out _ _ ?_ (fun hHeld => ?_)
              · with_reducible exact (HSS2.out _ G4)
              clear hK K
              try simp only [Act.put, List.setIfInBounds_toArray, List.set_cons_zero, List.set_cons_succ, List.getElem_toArray, List.getElem_cons_succ, List.getElem_cons_zero]
              skip
              refine wpAnyH_take (i := 19) (v := ?_) rfl (by kernel_rfl) (by kernel_rfl) (by kernel_rfl) (fun _ _ _ h => h) (Or.inl ⟨by rfl, ?_⟩) (by assumption) ?_
              rotate_left
              · intro X hX
                go_simp
                try with_reducible rfl
              try simp only [Act.put, List.setIfInBounds_toArray, List.set_cons_zero, List.set_cons_succ, List.getElem_toArray, List.getElem_cons_succ, List.getElem_cons_zero]
              refine wpAnyH_take (i := 20) (v := ?_) rfl (by kernel_rfl) (by kernel_rfl) (by kernel_rfl) (fun _ _ _ h => h) (Or.inl ⟨by rfl, ?_⟩) (by assumption) ?_
              rotate_left
              · intro X hX
                go_simp
                try with_reducible rfl
              try simp only [Act.put, List.setIfInBounds_toArray, List.set_cons_zero, List.set_cons_succ, List.getElem_toArray, List.getElem_cons_succ, List.getElem_cons_zero]
              refine wpAnyH_done (by kernel_rfl) ?_ _
              go_wp2_with fail
              go_meet
              case rel => exact ⟨rfl, Lib.hid G4.out.bel⟩
          case rest =>
            obtain ⟨rfl, HF⟩ := hcut
            go_wp2_with fail
            go_ret
            exact ⟨rfl, HF.out⟩
end Go.Proofs.Ytlejlmlgcehjiaa.netsCopyW
