/-
  The walk of the law EpochsAt.
-/
import Derived.Test.YtmdchepmojlbbaaRows
import Derived.Test.YtmdchepmojlbbaaEWorks
import Derived.Test.YtmdchepmojlbbaaEArr
import Derived.Test.YtmdchepmojlbbaaEAt
import Derived.ArgAppend
import Derived.Lib.MinMax
import Derived.Test.YtmdchepmojlbbaaDQuiet
namespace Go.Proofs.Ytmdchepmojlbbaa.epochsAtW
open Go.RowKit
theorem pair_cells (w : World) (x0 x1 : Int) : ∃ w', w.alloc (.cells #[.int .i64 x0, .int .i64 x1] 37) = w' ∧ Below w.heap.size w w' ∧ w.heap.size < w'.heap.size ∧ w'.cell? ⟨w.heap.size, 0, none⟩ = some (.int .i64 x0) ∧ w'.cell? ⟨w.heap.size, 1, none⟩ = some (.int .i64 x1) := by
  have h := World.alloc_heap_new w (.cells #[.int .i64 x0, .int .i64 x1] 37)
  refine ⟨_, rfl, (Below.refl _ w).alloc (Nat.le_refl _) _, by simp, ?_, ?_⟩
  · simp only [World.cell?, h]; rfl
  · simp only [World.cell?, h]; rfl
theorem empty_own (w : World) (base : Nat) (t : TypeId) (h : base ≤ w.heap.size) : (w.alloc (.cells #[] t)).ownsRow base t 1 (.slice (some ⟨w.heap.size, 0, none⟩) 0 0) 0 [] :=
  ⟨rfl, .inr ⟨w.heap.size, 0, #[], rfl, h, World.alloc_heap_new w _, Nat.le_refl _, Nat.zero_le _, rfl, rfl⟩⟩
theorem src_at {w w1 : World} {b off : Nat} {l : List Int} (hbw : b < w.heap.size) (hc : ∀ j, j < l.length → w.cell? ⟨b, off + j, none⟩ = some (.int .i64 (l.getD j 0))) (hb : Below w.heap.size w w1) :
    ∀ j u, (l.map (Value.int .i64))[j]? = some u → w1.cell? ((⟨b, off, none⟩ : Addr).add j) = some u := by
  intro j u hu
  have hj : j < l.length := by
    have := (List.getElem?_eq_some_iff.1 hu).1
    simpa using this
  rw [Addr.add_lit, hb.cell (p := ⟨b, off + j, none⟩) hbw, hc j hj, ← hu]
  simp [List.getD, hj]
set_option maxRecDepth 100000 in
set_option maxHeartbeats 2000000 in
theorem walk_no (A : Option Addr) (cv : Nat) (l : List Int) (n x0 x1 : Int) (w : World) (hl : l.length ≤ 20) (hi : Ints w (.slice A l.length cv) l) (hm : (Epo.most l n).2 = false) :
    Calls Try.prog 7 #[.slice A l.length cv, .int .i64 n, .agg #[.int .i64 x0, .int .i64 x1]] w fun e w' => e = .returned (.bool true) ∧ Below w.heap.size w w' := by
  have hn := Epo.most_no hm
  have HV := Lib.hid (show mostV l n = .tuple #[.int .i64 0, .bool false] by unfold mostV; rw [hn.1, hm])
  have hn2 := hn.2
  clear hn hm
  have q1 : decide ((20 : Int) < (l.length : Int)) = false := decide_eq_false (by omega)
  have HJ := Lib.hid (majority_any n)
  have hj : Epo.maj n = 0 ∨ (1 ≤ Epo.maj n ∧ n < (l.length : Int)) ∨ (1 ≤ Epo.maj n ∧ (l.length : Int) ≤ n ∧ (l.length : Int) < Epo.maj n) := by
    unfold Epo.maj
    split <;> omega
  generalize Epo.maj n = j at *
  clear hn2
  rcases hj with rfl | ⟨g1, g2⟩ | ⟨g1, g2, g3⟩
  · go_enter Try.func7, Try.ntmps7
    go_wp2_with fail
    obtain ⟨w0, hw0, hB0, _, _, _⟩ := pair_cells w x0 x1
    rw [hw0]
    refine (most_any _ l n _ (hi.below hB0)).mono ?_
    rintro e w1 ⟨rfl, hb0⟩
    have hb := hB0.trans (hb0.mono hB0.size)
    clear hb0
    rw [HV.out]
    go_wp2_with fail
    refine (HJ.out _).mono ?_
    rintro e w2 ⟨rfl, rfl⟩
    go_wp2_with fail
    refine (works_any _).mono ?_
    rintro e w2 ⟨rfl, hb2⟩
    go_wp2_with fail
    go_ret
    exact ⟨rfl, hb.trans (hb2.mono hb.size)⟩
  · have hj0 : (j == 0) = false := by simp only [beq_eq_false_iff_ne, ne_eq]; omega
    go_enter Try.func7, Try.ntmps7
    go_wp2_with fail
    obtain ⟨w0, hw0, hB0, _, _, _⟩ := pair_cells w x0 x1
    rw [hw0]
    refine (most_any _ l n _ (hi.below hB0)).mono ?_
    rintro e w1 ⟨rfl, hb0⟩
    have hb := hB0.trans (hb0.mono hB0.size)
    clear hb0
    rw [HV.out]
    go_wp2_with fail
    refine (HJ.out _).mono ?_
    rintro e w2 ⟨rfl, rfl⟩
    go_wp2_with fail
    refine (works_any _).mono ?_
    rintro e w2 ⟨rfl, hb2⟩
    go_wp2_with fail
    go_ret
    exact ⟨rfl, hb.trans (hb2.mono hb.size)⟩
  · have hj0 : (j == 0) = false := by simp only [beq_eq_false_iff_ne, ne_eq]; omega
    go_enter Try.func7, Try.ntmps7
    go_wp2_with fail
    obtain ⟨w0, hw0, hB0, _, _, _⟩ := pair_cells w x0 x1
    rw [hw0]
    refine (most_any _ l n _ (hi.below hB0)).mono ?_
    rintro e w1 ⟨rfl, hb0⟩
    have hb := hB0.trans (hb0.mono hB0.size)
    clear hb0
    rw [HV.out]
    go_wp2_with fail
    refine (HJ.out _).mono ?_
    rintro e w2 ⟨rfl, rfl⟩
    go_wp2_with fail
    refine (HJ.out _).mono ?_
    rintro e w2 ⟨rfl, rfl⟩
    go_wp2_with fail
    refine (works_any _).mono ?_
    rintro e w2 ⟨rfl, hb2⟩
    go_wp2_with fail
    go_ret
    exact ⟨rfl, hb.trans (hb2.mono hb.size)⟩
set_option maxRecDepth 100000 in
set_option maxHeartbeats 4000000 in
theorem walk_yes (A : Option Addr) (cv : Nat) (l : List Int) (n x0 x1 : Int) (w : World) (hl : l.length ≤ 20) (hi : Ints w (.slice A l.length cv) l) (hm : (Epo.most l n).2 = true) :
    Calls Try.prog 7 #[.slice A l.length cv, .int .i64 n, .agg #[.int .i64 x0, .int .i64 x1]] w fun e w' => e = .returned (.bool true) ∧ Below w.heap.size w w' := by
  obtain ⟨i0, hi0, hz0, hz1, hz2⟩ := info_parts infoInt
  have HI := Lib.hid hi
  obtain ⟨⟨h1, h2⟩, h3, h4, ha⟩ := Epo.most_yes hm
  have HP := Lib.hid (Epo.most_perm (List.reverse_perm l).symm n)
  have HR := Lib.hid (fun i y (hy : l.getD i 0 ≤ y) => Epo.most_raise hm hy)
  have HV := Lib.hid (show mostV l n = .tuple #[.int .i64 (Epo.most l n).1, .bool true] by unfold mostV; rw [hm])
  have HJ := Lib.hid (majority_any n)
  rw [Epo.maj_range h1 h2] at HJ
  have hK : 2 ≤ n / 2 + 1 ∧ n / 2 + 1 ≤ (l.length : Int) := ⟨by omega, h4⟩
  generalize hM : (Epo.most l n).1 = m at *
  generalize n / 2 + 1 = K at *
  have q1 : decide ((20 : Int) < (l.length : Int)) = false := decide_eq_false (by omega)
  obtain ⟨A0, c0, e0, hlc, hcm, _, hcell⟩ := hi
  injection e0 with e0 _ e1
  subst e0 e1
  obtain ⟨b, off, rfl, hbw, hc⟩ := hcell (by omega)
  have HC := Lib.hid hc
  have HA := Lib.hid ha
  have HHM := Lib.hid hM
  have HHm := Lib.hid hm
  unfold maxLen at hcm
  clear hc ha hM hm hcell h4
  go_enter Try.func7, Try.ntmps7
  go_wp2_with fail
  obtain ⟨w0, hw0, hB0, hlw, R0, R1⟩ := pair_cells w x0 x1
  rw [hw0]
  clear hw0
  have HI0 := Lib.hid (HI.out.below hB0)
  have HR0 := Lib.hid R0
  have HR1 := Lib.hid R1
  have hbw0 : b < w0.heap.size := by omega
  have HC := Lib.hid (fun j (hj : j < l.length) => (hB0.cell (p := ⟨b, off + j, none⟩) hbw).trans (HC.out j hj))
  clear R0 R1
  refine (most_any _ l n _ HI0.out).mono ?_
  rintro e w1 ⟨rfl, hb1⟩
  rw [HV.out]
  go_wp2_with fail
  go_loopw [9, 10, 11] (fun p q i wr => ∃ (a c j : Nat), j ≤ l.length ∧ a ≤ j ∧ c ≤ j ∧ p = .int .i64 a ∧ q = .int .i64 c ∧ i = .int .i64 j ∧ Hid (a = (l.take j).countP (fun y => decide (m ≤ y))) ∧ Hid (c = (l.take j).countP (fun y => decide (m < y))) ∧ Below w0.heap.size w0 wr) (fun _ _ i _ => l.length - (intOf i).toNat)
  case atStart => exact ⟨0, 0, 0, Nat.zero_le _, Nat.le_refl _, Nat.le_refl _, rfl, rfl, rfl, Lib.hid rfl, Lib.hid rfl, hb1⟩
  case round =>
    obtain ⟨a, c, j, hj, haj, hcj, rfl, rfl, rfl, HQ, HQ', hb⟩ := hrel
    by_cases hlt : j < l.length
    · have hck := (hb.cell (p := ⟨b, off + j, none⟩) hbw0).trans (HC.out j hlt)
      have HS := Lib.hid (Epo.count_step l m j hlt)
      have HS' := Lib.hid (Epo.above_step l m j hlt)
      rw [← HQ.out] at HS
      rw [← HQ'.out] at HS'
      generalize l.getD j 0 = y at *
      rcases (show y < m ∨ y = m ∨ m < y by omega) with g | g | g
      · have HT := Lib.hid (HS.out.trans (by rw [if_neg (by omega), Nat.add_zero]))
        have HT' := Lib.hid (HS'.out.trans (by rw [if_neg (by omega), Nat.add_zero]))
        clear HS HS'
        go_wp2_with fail
        go_roundw
        case rel => exact ⟨a, c, j + 1, by omega, by omega, by omega, rfl, rfl, by go_num, Lib.hid HT.out.symm, Lib.hid HT'.out.symm, hb⟩
        case measure => simp [intOf]; omega
      · subst g
        have HT := Lib.hid (HS.out.trans (by rw [if_pos (by omega)]))
        have HT' := Lib.hid (HS'.out.trans (by rw [if_neg (by omega), Nat.add_zero]))
        clear HS HS'
        go_wp2_with fail
        go_roundw
        case rel => exact ⟨a + 1, c, j + 1, by omega, by omega, by omega, by go_num, rfl, by go_num, Lib.hid HT.out.symm, Lib.hid HT'.out.symm, hb⟩
        case measure => simp [intOf]; omega
      · have HT := Lib.hid (HS.out.trans (by rw [if_pos (by omega)]))
        have HT' := Lib.hid (HS'.out.trans (by rw [if_pos (by omega)]))
        clear HS HS'
        go_wp2_with fail
        go_roundw
        case rel => exact ⟨a + 1, c + 1, j + 1, by omega, by omega, by omega, by go_num, by go_num, by go_num, Lib.hid HT.out.symm, Lib.hid HT'.out.symm, hb⟩
        case measure => simp [intOf]; omega
    · obtain rfl : j = l.length := by omega
      rw [List.take_length] at HQ HQ'
      have hak : K ≤ (a : Int) := by have := HA.out.many; rw [← HQ.out] at this; omega
      have hck : (c : Int) < K := by have := HA.out.least; rw [← HQ'.out] at this; omega
      clear HQ HQ'
      have hsz := hb.size
      go_wp2_with fail
      refine (HJ.out _).mono ?_
      rintro e w2 ⟨rfl, rfl⟩
      go_wp2_with fail
      refine (HJ.out _).mono ?_
      rintro e w2 ⟨rfl, rfl⟩
      go_wp2_with fail
      go_loopw [12, 13] (fun tv i wx => ∃ (tA : Option Addr) (tc N j : Nat) (z : Int), Hid (N + j = l.length) ∧ z = (j : Int) - 1 ∧ tv = .slice tA N tc ∧ i = .int .i64 z ∧ Hid (wx.ownsRow w0.heap.size 3 1 (.slice tA N tc) N ((l.drop j).reverse.map (Value.int .i64))) ∧ Below w0.heap.size w0 wx) (fun _ i _ => (intOf i + 1).toNat)
      case atStart => exact ⟨none, 0, 0, l.length, (l.length : Int) - 1, Lib.hid (by omega), rfl, rfl, rfl, Lib.hid (by rw [List.drop_of_length_le (Nat.le_refl _)]; exact World.ownsRow_nil _ _ _ _), hb⟩
      case round =>
        obtain ⟨tA, tc, N, j, z, HN, hz, rfl, rfl, HO, hb⟩ := hrel
        cases j with
        | zero =>
          obtain rfl : z = -1 := by simpa using hz
          obtain rfl : N = l.length := by have := HN.out; omega
          rw [List.drop_zero] at HO
          clear HN hz
          go_wp2_with fail
          have hL : 2 ≤ (l.length : Int) := by omega
          have hq1 := Int.tmod_lt_of_pos x0 (show 0 < (l.length : Int) by omega)
          have hq2 := Int.lt_tmod_of_pos x0 (show 0 < (l.length : Int) by omega)
          refine (most_any _ l.reverse n _ (Ints.own (by rw [List.length_reverse]; exact HO.out))).mono ?_
          rintro e w4 ⟨rfl, hb4⟩
          have hb04 := hb.trans (hb4.mono hb.size)
          have r0 := (hb04.cell (p := ⟨w.heap.size, 0, none⟩) hlw).trans HR0.out
          have hv : mostV l.reverse n = .tuple #[.int .i64 m, .bool true] := by rw [← HV.out]; unfold mostV; rw [← HP.out]
          rw [hv]
          clear hv
          have HSRC := Lib.hid (fun w1 (hb : Below w0.heap.size w0 w1) => src_at hbw0 HC.out hb)
          have hmx : 0 + l.length ≤ maxLen := Nat.le_trans (show 0 + l.length ≤ 20 by omega) (by decide)
          obtain ⟨q, hq⟩ : ∃ q, x0.tmod (l.length : Int) = q := ⟨_, rfl⟩
          rw [hq] at hq1 hq2
          rcases Int.lt_or_le q 0 with g | g
          · obtain ⟨k, hk⟩ : ∃ k : Nat, q + (l.length : Int) = (k : Int) := ⟨(q + (l.length : Int)).toNat, by omega⟩
            have hkl : k < l.length := by omega
            go_wp2_with (at_builtin; refine wpList_append_own _ rfl _ _ 29 rfl w0.heap.size 3 i0 (.int .i64 0) 1 8 Try.underlying29 hi0 hz0 hz1 hz2 rfl (by decide) _ _ _ rfl (empty_own w4 w0.heap.size 3 hb04.size) ⟨b, off, none⟩ l.length cv (l.map (Value.int .i64)) rfl (by simp) (HSRC.out _ (hb04.alloc hb04.size _)) (ints_oneCell _ _) hmx (by omega) (by have := hb04.size; simp; omega) ?_; intro v' w5 hown' hgrow5 _)
            have hg5 : (w4.alloc (.cells #[] 3)).grownBy w5 (some w4.heap.size) := hgrow5
            have hb5 : Below w0.heap.size w0 w5 := (hb04.alloc hb04.size _).grown hg5 (Nat.le_trans hb04.size (by simp)) (fun j e => by cases e; exact hb04.size)
            rw [List.nil_append, Nat.zero_add] at hown'
            obtain ⟨g5, cap5, cur5, rfl, hg5', _⟩ := hown'.2.resolve_left (by rintro ⟨_, hz⟩; omega)
            have hcy : w5.cell? ⟨g5, k, none⟩ = some (.int .i64 (l.getD k 0)) := by rw [World.ownsRow.cellAt hown' k (by omega)]; simp [List.getD, hkl]
            have hfy := World.ownsRow.frozenAt hown' k
            have hst := fun u => (World.ownsRow.stored hown' k u).1
            have r1 := (hb5.cell (p := ⟨w.heap.size, 1, none⟩) hlw).trans HR1.out
            have HST := Lib.hid hst
            have HOW := Lib.hid hown'
            clear hst hgrow5 hg5
            generalize hyk : l.getD k 0 = y at *
            have HY := Lib.hid hyk
            clear hyk
            go_wp2_with fail
            refine wp_region_tail_drawn 10 (by kernel_rfl) (by kernel_rfl) ?_
            simp only [List.take_succ_cons, List.take_zero, List.drop_succ_cons, List.drop_zero]
            repeat (go_big_quiet_step (fail))
            refine wpQuiet_nil ?_
            intro _ hw'
            obtain ⟨mq, hw''⟩ := hw'
            subst hw''
            have hy1 : y ≤ max y x1 := Int.le_max_left _ _
            generalize max y x1 = u at *
            have HOD : (w5.drewN mq).ownsRow w0.heap.size 3 1 (.slice (some ⟨g5, 0, none⟩) l.length cap5) l.length (l.map (Value.int .i64)) := HOW.out
            have hst := World.ownsRow.stored HOD k (.int .i64 u)
            have HR5 := Lib.hid (HR.out k u (by rw [HY.out]; exact hy1))
            go_wp2_with fail
            have hb6 : Below w0.heap.size w0 ((w5.drewN mq).setCell ⟨g5, k, none⟩ (.int .i64 u)) := (show Below w0.heap.size w0 (w5.drewN mq) from ⟨hb5.os, hb5.tape, hb5.output, hb5.size, hb5.block⟩).setCell (p := ⟨g5, k, none⟩) hg5' _
            have hrow6 : ((w5.drewN mq).setCell ⟨g5, k, none⟩ (.int .i64 u)).ownsRow w0.heap.size 3 1 (.slice (some ⟨g5, 0, none⟩) l.length cap5) (l.set k u).length ((l.set k u).map (Value.int .i64)) := by
              rw [List.length_set, List.map_set]; exact hst.1
            have I6 := Ints.own hrow6
            generalize (w5.drewN mq).setCell ⟨g5, k, none⟩ (.int .i64 u) = w6 at *
            refine (most_any _ (l.set k u) n _ I6).mono ?_
            rintro e w7 ⟨rfl, hb7⟩
            have hr := HR5.out
            unfold mostV
            rw [hr.1]
            have hr2 := hr.2
            generalize (Epo.most (l.set k u) n).1 = r at *
            clear hr I6 hrow6 hst
            go_wp2_with fail
            refine (works_any _).mono ?_
            rintro e w8 ⟨rfl, hb8⟩
            go_wp2_with fail
            go_ret
            have h07 := hb6.trans (hb7.mono hb6.size)
            have h08 := h07.trans (hb8.mono h07.size)
            exact ⟨rfl, hB0.trans (h08.mono hB0.size)⟩
          · obtain ⟨k, rfl⟩ : ∃ k : Nat, q = (k : Int) := ⟨q.toNat, by omega⟩
            have hkl : k < l.length := by omega
            go_wp2_with (at_builtin; refine wpList_append_own _ rfl _ _ 29 rfl w0.heap.size 3 i0 (.int .i64 0) 1 8 Try.underlying29 hi0 hz0 hz1 hz2 rfl (by decide) _ _ _ rfl (empty_own w4 w0.heap.size 3 hb04.size) ⟨b, off, none⟩ l.length cv (l.map (Value.int .i64)) rfl (by simp) (HSRC.out _ (hb04.alloc hb04.size _)) (ints_oneCell _ _) hmx (by omega) (by have := hb04.size; simp; omega) ?_; intro v' w5 hown' hgrow5 _)
            have hg5 : (w4.alloc (.cells #[] 3)).grownBy w5 (some w4.heap.size) := hgrow5
            have hb5 : Below w0.heap.size w0 w5 := (hb04.alloc hb04.size _).grown hg5 (Nat.le_trans hb04.size (by simp)) (fun j e => by cases e; exact hb04.size)
            rw [List.nil_append, Nat.zero_add] at hown'
            obtain ⟨g5, cap5, cur5, rfl, hg5', _⟩ := hown'.2.resolve_left (by rintro ⟨_, hz⟩; omega)
            have hcy : w5.cell? ⟨g5, k, none⟩ = some (.int .i64 (l.getD k 0)) := by rw [World.ownsRow.cellAt hown' k (by omega)]; simp [List.getD, hkl]
            have hfy := World.ownsRow.frozenAt hown' k
            have hst := fun u => (World.ownsRow.stored hown' k u).1
            have r1 := (hb5.cell (p := ⟨w.heap.size, 1, none⟩) hlw).trans HR1.out
            have HST := Lib.hid hst
            have HOW := Lib.hid hown'
            clear hst hgrow5 hg5
            generalize hyk : l.getD k 0 = y at *
            have HY := Lib.hid hyk
            clear hyk
            go_wp2_with fail
            refine wp_region_tail_drawn 10 (by kernel_rfl) (by kernel_rfl) ?_
            simp only [List.take_succ_cons, List.take_zero, List.drop_succ_cons, List.drop_zero]
            repeat (go_big_quiet_step (fail))
            refine wpQuiet_nil ?_
            intro _ hw'
            obtain ⟨mq, hw''⟩ := hw'
            subst hw''
            have hy1 : y ≤ max y x1 := Int.le_max_left _ _
            generalize max y x1 = u at *
            have HOD : (w5.drewN mq).ownsRow w0.heap.size 3 1 (.slice (some ⟨g5, 0, none⟩) l.length cap5) l.length (l.map (Value.int .i64)) := HOW.out
            have hst := World.ownsRow.stored HOD k (.int .i64 u)
            have HR5 := Lib.hid (HR.out k u (by rw [HY.out]; exact hy1))
            go_wp2_with fail
            have hb6 : Below w0.heap.size w0 ((w5.drewN mq).setCell ⟨g5, k, none⟩ (.int .i64 u)) := (show Below w0.heap.size w0 (w5.drewN mq) from ⟨hb5.os, hb5.tape, hb5.output, hb5.size, hb5.block⟩).setCell (p := ⟨g5, k, none⟩) hg5' _
            have hrow6 : ((w5.drewN mq).setCell ⟨g5, k, none⟩ (.int .i64 u)).ownsRow w0.heap.size 3 1 (.slice (some ⟨g5, 0, none⟩) l.length cap5) (l.set k u).length ((l.set k u).map (Value.int .i64)) := by
              rw [List.length_set, List.map_set]; exact hst.1
            have I6 := Ints.own hrow6
            generalize (w5.drewN mq).setCell ⟨g5, k, none⟩ (.int .i64 u) = w6 at *
            refine (most_any _ (l.set k u) n _ I6).mono ?_
            rintro e w7 ⟨rfl, hb7⟩
            have hr := HR5.out
            unfold mostV
            rw [hr.1]
            have hr2 := hr.2
            generalize (Epo.most (l.set k u) n).1 = r at *
            clear hr I6 hrow6 hst
            go_wp2_with fail
            refine (works_any _).mono ?_
            rintro e w8 ⟨rfl, hb8⟩
            go_wp2_with fail
            go_ret
            have h07 := hb6.trans (hb7.mono hb6.size)
            have h08 := h07.trans (hb8.mono h07.size)
            exact ⟨rfl, hB0.trans (h08.mono hB0.size)⟩
        | succ k =>
          obtain rfl : z = (k : Int) := by omega
          clear hz
          have hck := (hb.cell (p := ⟨b, off + k, none⟩) hbw0).trans (HC.out k (by have := HN.out; omega))
          have HB := Lib.hid (Epo.back_step (l := l) (j := k) (by have := HN.out; omega))
          generalize l.getD k 0 = y at *
          have hsz := hb.size
          have hkl : k < l.length := by have := HN.out; omega
          have hN20 : N < 20 := by have := HN.out; omega
          have hmx : N + 1 ≤ maxLen := Nat.le_trans (show N + 1 ≤ 21 by omega) (by decide)
          go_wp2_with (at_builtin; refine wpList_append_own _ rfl _ _ 29 rfl w0.heap.size 3 i0 (.int .i64 0) 1 8 Try.underlying29 hi0 hz0 hz1 hz2 rfl (by decide) _ _ _ rfl (World.ownsRow.alloc HO.out _) ⟨wr.heap.size, 0, none⟩ 1 1 [.int .i64 y] rfl rfl (cell_one_new _ _ _) (fun x hx => by simp at hx; subst hx; rfl) hmx (by omega) (by simp; omega) ?_; intro v' w3 hown' hgrow3 _)
          have hg3 : (wr.alloc (.cells #[.int .i64 y] 3)).grownBy w3 (Value.slice tA N tc).ownBlock := hgrow3
          have hb3 : Below w0.heap.size w0 w3 := (hb.alloc hb.size _).grown hg3 (Nat.le_trans hb.size (by simp)) (fun j e => (World.ownsRow.lt HO.out j e).1)
          obtain ⟨g, cap, rfl⟩ := ownsRow_succ hown'
          go_roundw
          case rel => exact ⟨some ⟨g, 0, none⟩, cap, N + 1, k, (k : Int) - 1, Lib.hid (by have := HN.out; omega), rfl, rfl, rfl, Lib.hid (by rw [HB.out, List.map_append]; exact hown'), hb3⟩
          case measure => simp [intOf]
set_option maxRecDepth 100000 in
theorem walk (A : Option Addr) (cv : Nat) (l : List Int) (n x0 x1 : Int) (w : World) (hi : Ints w (.slice A l.length cv) l) (_ : (Lit.int .i64 n).wf = true) :
    Calls Try.prog 7 #[.slice A l.length cv, .int .i64 n, .agg #[.int .i64 x0, .int .i64 x1]] w fun e w' => e = .returned (.bool true) ∧ Below w.heap.size w w' := by
  by_cases hl : l.length ≤ 20
  · rcases hm : (Epo.most l n).2 with _ | _
    · exact walk_no A cv l n x0 x1 w hl hi hm
    · exact walk_yes A cv l n x0 x1 w hl hi hm
  · have q1 : decide ((20 : Int) < (l.length : Int)) = true := decide_eq_true (by omega)
    clear hi
    go_enter Try.func7, Try.ntmps7
    go_wp2_with fail
    go_ret
    exact ⟨rfl, (Below.refl _ w).alloc (Nat.le_refl _) _⟩
end Go.Proofs.Ytmdchepmojlbbaa.epochsAtW
