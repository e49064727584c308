/-
  The walk of the law ClocksPlay.
-/
import Derived.Test.YtljlighgjjiagaaKTwo
import Derived.Test.YtljlighgjjiagaaRows
import Derived.Test.YtljlighgjjiagaaKHeld
import Derived.Deep.DeepCutAuto
import Derived.Deep.LoopGhost
namespace Go.Proofs.Ytljlighgjjiagaa.clocksPlayW
open Go.RowKit
set_option maxRecDepth 100000 in
set_option maxHeartbeats 2000000 in
theorem walk_near (n : Nat) (A : Option Addr) (cv : Nat) (l : List Int) (w : World) (h1 : 2 ≤ n) (h2 : n ≤ 7) (hl : l.length ≤ 2000) (hi : Ints w (.slice A l.length cv) l) :
    Calls Try.prog 3 #[.int .i64 (n : Int), .slice A l.length cv] w fun e w' => e = .returned (.bool true) ∧ Below w.heap.size w w' := by
  obtain ⟨A0, c0, e0, hlc, hcm, _, hcell⟩ := hi
  injection e0 with e0 _ e1
  subst e0 e1
  unfold maxLen at hcm
  have q1 : decide ((2000 : Int) < (l.length : Int)) = false := decide_eq_false (by omega)
  have HC := Lib.hid hcell
  have HNew := Lib.hid (on_new n h1 h2 w)
  have HR := Lib.hid (fun (w1 : World) (c : Nat) (h : Hid (On w c (Clo.new n) w1)) => two_new n h1 h2 h)
  have HG := Lib.hid (show (Clo.new n).l.length = n by simp [Clo.new])
  clear hcell
  go_enter Try.func3, Try.ntmps3
  go_wp2_with fail
  refine HNew.out.mono ?_
  rintro e w1 ⟨c, rfl, H1⟩
  go_wp2_with fail
  refine (HR.out _ _ H1).mono ?_
  rintro e w2 ⟨r, g, rfl, H2⟩
  clear H1 HR HNew
  go_wp2_with fail
  go_loopg [9] l.length (fun kx s9 wr => ∃ (i : Nat) (C : Clo.Cs), i ≤ l.length ∧ s9 = .int .i64 (i : Int) ∧ l.length - i ≤ kx ∧ Hid (C.l.length = n) ∧ Hid (Two w c r g C C wr))
  case atStart => exact ⟨0, _, Nat.zero_le _, rfl, by omega, HG, H2⟩
  case round =>
    obtain ⟨i, C, hil, rfl, hik, HN, HT⟩ := hrel
    clear H2 HG
    by_cases hlt : i < l.length
    · obtain ⟨b, off, rfl, hbw, hc⟩ := HC.out (by omega)
      have ci := hc i hlt
      obtain ⟨s, hs⟩ : ∃ s, l.getD i 0 = s := ⟨_, rfl⟩
      rw [hs] at ci
      clear hc hs
      have CL := Lib.hid (fun (X : World) (D D' : Clo.Cs) (h : Hid (Two w c r g D D' X)) => (h.out.bel.cell (p := ⟨b, off + i, none⟩) hbw).trans ci)
      obtain ⟨⟨C', k⟩, HK⟩ : ∃ R, Hid (Clo.ticked C s = R) := ⟨_, rfl⟩
      have HN' : Hid (C'.l.length = n) := by
        have h1 := (HT.out.1.good.ticked s).2
        rw [HK.out] at h1
        exact h1.trans HN.out
      obtain ⟨q, HQ⟩ : ∃ q, Hid (Clo.skew C'.l = q) := ⟨_, rfl⟩
      obtain ⟨j, HJ⟩ : ∃ j, Hid (C'.w = j) := ⟨_, rfl⟩
      obtain ⟨⟨x, y⟩, HA⟩ : ∃ R, Hid (Clo.at_ C' s = R) := ⟨_, rfl⟩
      have CW := Lib.hid (fun (X : World) (D : Clo.Cs) (h : Hid (Two w c r g D C' X)) => h.out.2.1.w.trans (by rw [HJ.out]))
      have H0 : Hid (Two w c r g C C wr.drew) := HT.out.drewN 1
      go_upto_region 12 with fail
      go_cut [79] (fun u wx => u = .bool false ∧ Hid (Two w c r g C' C' wx))
      case first =>
        as_aux_lemma =>
          refine wp_region_held_drew (S := fun X => X.cell? ⟨b, off + i, none⟩ = some (.int .i64 s)) (by kernel_rfl) (CL.out _ _ _ H0) (fun hS0 => ?_)
          refine wpAnyH_take (i := 0) (v := ?_) rfl (by kernel_rfl) (by kernel_rfl) (by kernel_rfl) (fun _ _ _ h => h) (Or.inl ⟨by rfl, ?_⟩) (by assumption) ?_
          rotate_left
          · intro X hX
            go_simp
            try with_reducible rfl
          try simp only [Act.put, List.setIfInBounds_toArray, List.set_cons_zero, List.set_cons_succ, List.getElem_toArray, List.getElem_cons_zero]
          refine wpAnyH_take (i := 1) (v := ?_) rfl (by kernel_rfl) (by kernel_rfl) (by kernel_rfl) (fun _ _ _ h => h) (Or.inl ⟨by rfl, ?_⟩) (by assumption) ?_
          rotate_left
          · intro X hX
            go_simp
            try with_reducible rfl
          try simp only [Act.put, List.setIfInBounds_toArray, List.set_cons_zero, List.set_cons_succ, List.getElem_toArray, List.getElem_cons_succ, List.getElem_cons_zero]
          refine wpAnyH_take (i := 2) (v := ?_) rfl (by kernel_rfl) (by kernel_rfl) (by kernel_rfl) (fun _ _ _ h => h) (Or.inl ⟨by rfl, ?_⟩) (by assumption) ?_
          rotate_left
          · intro X hX
            go_simp
            try with_reducible rfl
          try simp only [Act.put, List.setIfInBounds_toArray, List.set_cons_zero, List.set_cons_succ, List.getElem_toArray, List.getElem_cons_succ, List.getElem_cons_zero]
          refine wpAnyH_take (i := 3) (v := ?_) rfl (by kernel_rfl) (by kernel_rfl) (by kernel_rfl) (fun _ _ _ h => h) (Or.inl ⟨by rfl, ?_⟩) (by assumption) ?_
          rotate_left
          · intro X hX
            go_simp
            try with_reducible rfl
          try simp only [Act.put, List.setIfInBounds_toArray, List.set_cons_zero, List.set_cons_succ, List.getElem_toArray, List.getElem_cons_succ, List.getElem_cons_zero]
          refine wpAnyH_take (i := 4) (v := ?_) rfl (by kernel_rfl) (by kernel_rfl) (by kernel_rfl) (fun _ _ _ h => h) (Or.inl ⟨by rfl, ?_⟩) (by assumption) ?_
          rotate_left
          · intro X hX
            go_simp
            try with_reducible rfl
          try simp only [Act.put, List.setIfInBounds_toArray, List.set_cons_zero, List.set_cons_succ, List.getElem_toArray, List.getElem_cons_succ, List.getElem_cons_zero]
          refine wpAnyH_take (i := 6) (v := ?_) rfl (by kernel_rfl) (by kernel_rfl) (by kernel_rfl) (fun _ _ _ h => h) (Or.inl ⟨by rfl, ?_⟩) (by assumption) ?_
          rotate_left
          · intro X hX
            go_simp
            try with_reducible rfl
          try simp only [Act.put, List.setIfInBounds_toArray, List.set_cons_zero, List.set_cons_succ, List.getElem_toArray, List.getElem_cons_succ, List.getElem_cons_zero]
          refine wpAnyH_take (i := 7) (v := ?_) rfl (by kernel_rfl) (by kernel_rfl) (by kernel_rfl) (fun _ _ _ h => h) (Or.inl ⟨by rfl, ?_⟩) (by assumption) ?_
          rotate_left
          · intro X hX
            go_simp
            try with_reducible rfl
          try simp only [Act.put, List.setIfInBounds_toArray, List.set_cons_zero, List.set_cons_succ, List.getElem_toArray, List.getElem_cons_succ, List.getElem_cons_zero]
          refine wpAnyH_take (i := 8) (v := ?_) rfl (by kernel_rfl) (by kernel_rfl) (by kernel_rfl) (fun _ _ _ h => h) (Or.inl ⟨by rfl, ?_⟩) (by assumption) ?_
          rotate_left
          · intro X hX
            go_simp
            try with_reducible rfl
          try simp only [Act.put, List.setIfInBounds_toArray, List.set_cons_zero, List.set_cons_succ, List.getElem_toArray, List.getElem_cons_succ, List.getElem_cons_zero]
          refine wpAnyH_take (i := 9) (v := ?_) rfl (by kernel_rfl) (by kernel_rfl) (by kernel_rfl) (fun _ _ _ h => h) (Or.inl ⟨by rfl, ?_⟩) (by assumption) ?_
          rotate_left
          · intro X hX
            go_simp
            try with_reducible rfl
          try simp only [Act.put, List.setIfInBounds_toArray, List.set_cons_zero, List.set_cons_succ, List.getElem_toArray, List.getElem_cons_succ, List.getElem_cons_zero]
          refine wpAnyH_take (i := 10) (v := ?_) rfl (by kernel_rfl) (by kernel_rfl) (by kernel_rfl) (fun _ _ _ h => h) (Or.inl ⟨by rfl, ?_⟩) (by assumption) ?_
          rotate_left
          · intro X hX
            go_simp
            try with_reducible rfl
          try simp only [Act.put, List.setIfInBounds_toArray, List.set_cons_zero, List.set_cons_succ, List.getElem_toArray, List.getElem_cons_succ, List.getElem_cons_zero]
          refine wpAnyH_ready (rs := [5]) (by kernel_rfl) (by simp) (AllReadyH.cons rfl (fun K hK => ?_) AllReadyH.nil)
          go_simp
          refine (two_tick s H0 HK).mono ?_
          rintro e w1' ⟨rfl, HA1⟩
          go_wp2_with fail
          refine hK.out _ _ (CL.out _ _ _ HA1) (fun hHeld => ?_)
          clear hK K
          try simp only [Act.put, List.setIfInBounds_toArray, List.set_cons_zero, List.set_cons_succ, List.getElem_toArray, List.getElem_cons_succ, List.getElem_cons_zero]
          refine wpAnyH_ready (rs := [11]) (by kernel_rfl) (by simp) (AllReadyH.cons rfl (fun K hK => ?_) AllReadyH.nil)
          go_simp
          refine (two_rtick s HA1 HK).mono ?_
          rintro e w2' ⟨rfl, HA2⟩
          go_wp2_with fail
          refine hK.out _ _ (CL.out _ _ _ HA2) (fun hHeld => ?_)
          clear hK K
          try simp only [Act.put, List.setIfInBounds_toArray, List.set_cons_zero, List.set_cons_succ, List.getElem_toArray, List.getElem_cons_succ, List.getElem_cons_zero]
          refine wpAnyH_take (i := 12) (v := ?_) rfl (by kernel_rfl) (by kernel_rfl) (by kernel_rfl) (fun _ _ _ h => h) (Or.inl ⟨by rfl, ?_⟩) (by assumption) ?_
          rotate_left
          · intro X hX
            go_simp
            try with_reducible rfl
          try simp only [Act.put, List.setIfInBounds_toArray, List.set_cons_zero, List.set_cons_succ, List.getElem_toArray, List.getElem_cons_succ, List.getElem_cons_zero]
          refine wpAnyH_take (i := 13) (v := ?_) rfl (by kernel_rfl) (by kernel_rfl) (by kernel_rfl) (fun _ _ _ h => h) (Or.inl ⟨by rfl, ?_⟩) (by assumption) ?_
          rotate_left
          · intro X hX
            go_simp
            try with_reducible rfl
          try simp only [Act.put, List.setIfInBounds_toArray, List.set_cons_zero, List.set_cons_succ, List.getElem_toArray, List.getElem_cons_succ, List.getElem_cons_zero]
          refine wpAnyH_take (i := 14) (v := ?_) rfl (by kernel_rfl) (by kernel_rfl) (by kernel_rfl) (fun _ _ _ h => h) (Or.inl ⟨by rfl, ?_⟩) (by assumption) ?_
          rotate_left
          · intro X hX
            go_simp
            try with_reducible rfl
          try simp only [Act.put, List.setIfInBounds_toArray, List.set_cons_zero, List.set_cons_succ, List.getElem_toArray, List.getElem_cons_succ, List.getElem_cons_zero]
          refine wpAnyH_take (i := 16) (v := ?_) rfl (by kernel_rfl) (by kernel_rfl) (by kernel_rfl) (fun _ _ _ h => h) (Or.inl ⟨by rfl, ?_⟩) (by assumption) ?_
          rotate_left
          · intro X hX
            go_simp
            try with_reducible rfl
          try simp only [Act.put, List.setIfInBounds_toArray, List.set_cons_zero, List.set_cons_succ, List.getElem_toArray, List.getElem_cons_succ, List.getElem_cons_zero]
          refine wpAnyH_ready (rs := [15]) (by kernel_rfl) (by simp) (AllReadyH.cons rfl (fun K hK => ?_) AllReadyH.nil)
          go_simp
          refine (two_skew HA2 HQ).mono ?_
          rintro e w3' ⟨rfl, HA3⟩
          go_wp2_with fail
          refine hK.out _ _ (CL.out _ _ _ HA3) (fun hHeld => ?_)
          clear hK K
          try simp only [Act.put, List.setIfInBounds_toArray, List.set_cons_zero, List.set_cons_succ, List.getElem_toArray, List.getElem_cons_succ, List.getElem_cons_zero]
          refine wpAnyH_ready (rs := [17]) (by kernel_rfl) (by simp) (AllReadyH.cons rfl (fun K hK => ?_) AllReadyH.nil)
          go_simp
          refine (two_rskew HA3 HQ).mono ?_
          rintro e w4' ⟨rfl, HA4⟩
          go_wp2_with fail
          refine hK.out _ _ (CL.out _ _ _ HA4) (fun hHeld => ?_)
          clear hK K
          try simp only [Act.put, List.setIfInBounds_toArray, List.set_cons_zero, List.set_cons_succ, List.getElem_toArray, List.getElem_cons_succ, List.getElem_cons_zero]
          refine wpAnyH_take (i := 18) (v := ?_) rfl (by kernel_rfl) (by kernel_rfl) (by kernel_rfl) (fun _ _ _ h => h) (Or.inl ⟨by rfl, ?_⟩) (by assumption) ?_
          rotate_left
          · intro X hX
            go_simp
            try with_reducible rfl
          try simp only [Act.put, List.setIfInBounds_toArray, List.set_cons_zero, List.set_cons_succ, List.getElem_toArray, List.getElem_cons_succ, List.getElem_cons_zero]
          refine wpAnyH_take (i := 19) (v := ?_) rfl (by kernel_rfl) (by kernel_rfl) (by kernel_rfl) (fun _ _ _ h => h) (Or.inl ⟨by rfl, ?_⟩) (by assumption) ?_
          rotate_left
          · intro X hX
            go_simp
            try with_reducible rfl
          try simp only [Act.put, List.setIfInBounds_toArray, List.set_cons_zero, List.set_cons_succ, List.getElem_toArray, List.getElem_cons_succ, List.getElem_cons_zero]
          refine wpAnyH_take (i := 20) (v := ?_) rfl (by kernel_rfl) (by kernel_rfl) (by kernel_rfl) (fun _ _ _ h => h) (Or.inl ⟨by rfl, ?_⟩) (by assumption) ?_
          rotate_left
          · intro X hX
            go_simp
            try with_reducible rfl
          try simp only [Act.put, List.setIfInBounds_toArray, List.set_cons_zero, List.set_cons_succ, List.getElem_toArray, List.getElem_cons_succ, List.getElem_cons_zero]
          refine wpAnyH_take (i := 21) (v := ?_) rfl (by kernel_rfl) (by kernel_rfl) (by kernel_rfl) (fun _ _ _ h => h) (Or.inl ⟨by rfl, ?_⟩) (by assumption) ?_
          rotate_left
          · intro X hX
            go_simp
            try with_reducible rfl
          try simp only [Act.put, List.setIfInBounds_toArray, List.set_cons_zero, List.set_cons_succ, List.getElem_toArray, List.getElem_cons_succ, List.getElem_cons_zero]
          refine wpAnyH_take (i := 23) (v := ?_) rfl (by kernel_rfl) (by kernel_rfl) (by kernel_rfl) (fun _ _ _ h => h) (Or.inl ⟨by rfl, ?_⟩) (by assumption) ?_
          rotate_left
          · intro X hX
            go_simp
            try with_reducible rfl
          try simp only [Act.put, List.setIfInBounds_toArray, List.set_cons_zero, List.set_cons_succ, List.getElem_toArray, List.getElem_cons_succ, List.getElem_cons_zero]
          refine wpAnyH_take (i := 24) (v := ?_) rfl (by kernel_rfl) (by kernel_rfl) (by kernel_rfl) (fun _ _ _ h => h) (Or.inl ⟨by rfl, ?_⟩) (by assumption) ?_
          rotate_left
          · intro X hX
            go_simp
            try with_reducible rfl
          try simp only [Act.put, List.setIfInBounds_toArray, List.set_cons_zero, List.set_cons_succ, List.getElem_toArray, List.getElem_cons_succ, List.getElem_cons_zero]
          refine wpAnyH_take (i := 25) (v := ?_) rfl (by kernel_rfl) (by kernel_rfl) (by kernel_rfl) (fun _ _ _ h => h) (Or.inl ⟨by rfl, ?_⟩) (by assumption) ?_
          rotate_left
          · intro X hX
            go_simp
            try with_reducible rfl
          try simp only [Act.put, List.setIfInBounds_toArray, List.set_cons_zero, List.set_cons_succ, List.getElem_toArray, List.getElem_cons_succ, List.getElem_cons_zero]
          refine held_more (S' := fun X => X.cell? ⟨b, off + i, none⟩ = some (.int .i64 s) ∧ X.cell? ⟨r, 1, none⟩ = some (.int .i64 j)) (fun _ h => h.1) _ _ _ _ ?_
          have hS1 := And.intro (CL.out _ _ _ HA4) (CW.out _ _ HA4)
          refine wpAnyH_take (i := 26) (v := ?_) rfl (by kernel_rfl) (by kernel_rfl) (by kernel_rfl) (fun _ _ _ h => h) (Or.inl ⟨by rfl, ?_⟩) (by assumption) ?_
          rotate_left
          · intro X hX; obtain ⟨_, hX⟩ := hX
            go_simp
            try with_reducible rfl
          try simp only [Act.put, List.setIfInBounds_toArray, List.set_cons_zero, List.set_cons_succ, List.getElem_toArray, List.getElem_cons_succ, List.getElem_cons_zero]
          refine wpAnyH_ready (rs := [22]) (by kernel_rfl) (by simp) (AllReadyH.cons rfl (fun K hK => ?_) AllReadyH.nil)
          go_simp
          refine (two_worst HA4 HJ HJ).mono ?_
          rintro e w5' ⟨rfl, HA5, hw5⟩
          go_wp2_with fail
          refine hK.out _ _ (⟨CL.out _ _ _ HA5, hw5⟩) (fun hHeld => ?_)
          clear hK K
          try simp only [Act.put, List.setIfInBounds_toArray, List.set_cons_zero, List.set_cons_succ, List.getElem_toArray, List.getElem_cons_succ, List.getElem_cons_zero]
          refine wpAnyH_take (i := 27) (v := ?_) rfl (by kernel_rfl) (by kernel_rfl) (by kernel_rfl) (fun _ _ _ h => h) (Or.inl ⟨by rfl, ?_⟩) (by assumption) ?_
          rotate_left
          · intro X hX
            go_simp
            try with_reducible rfl
          try simp only [Act.put, List.setIfInBounds_toArray, List.set_cons_zero, List.set_cons_succ, List.getElem_toArray, List.getElem_cons_succ, List.getElem_cons_zero]
          refine wpAnyH_take (i := 28) (v := ?_) rfl (by kernel_rfl) (by kernel_rfl) (by kernel_rfl) (fun _ _ _ h => h) (Or.inl ⟨by rfl, ?_⟩) (by assumption) ?_
          rotate_left
          · intro X hX
            go_simp
            try with_reducible rfl
          try simp only [Act.put, List.setIfInBounds_toArray, List.set_cons_zero, List.set_cons_succ, List.getElem_toArray, List.getElem_cons_succ, List.getElem_cons_zero]
          refine wpAnyH_done (by kernel_rfl) ?_ _
          go_wp2_with fail
          go_meet
          case rel => exact ⟨rfl, HA5⟩
      case rest =>
        obtain ⟨rfl, H6⟩ := hcut
        clear H0 CW HK HJ HQ
        have z6 := CL.out _ _ _ H6
        go_wp2_with fail
        refine (two_at s H6 HA).mono ?_
        rintro e w' ⟨rfl, rfl⟩
        go_wp2_with fail
        refine (two_rat s H6 HA).mono ?_
        rintro e w' ⟨rfl, rfl⟩
        go_wp2_with fail
        go_roundg (l.length - (i + 1))
        case measure => omega
        case rel => exact ⟨i + 1, C', by omega, by go_num, by omega, HN', H6⟩
    · obtain rfl : i = l.length := by omega
      have hnn := HN.out
      go_wp2_with fail
      go_loopg [14] (n + 2) (fun kx s14 wr => ∃ j : Nat, j ≤ n + 2 ∧ s14 = .int .i64 ((j : Int) - 1) ∧ n + 2 - j ≤ kx ∧ Hid (Two w c r g C C wr))
      case atStart => exact ⟨0, Nat.zero_le _, rfl, by omega, HT⟩
      case round =>
        obtain ⟨j, hj, rfl, hjk, HT2⟩ := hrel
        clear HT
        by_cases hlt2 : j < n + 2
        · obtain ⟨⟨x, y⟩, HA⟩ : ∃ R, Hid (Clo.at_ C ((j : Int) - 1) = R) := ⟨_, rfl⟩
          have hjw : IntKind.i64.wrap ((j : Int) - 1 + 1) = ((j + 1 : Nat) : Int) - 1 := by rw [IntWalk.i64_in _ (by omega)]; omega
          obtain ⟨z, hz⟩ : ∃ z, (j : Int) - 1 = z := ⟨_, rfl⟩
          rw [hz] at HA hjw
          have hzn : z ≤ (n : Int) := by omega
          rw [hz]
          go_wp2_with fail
          refine (two_at z HT2 HA).mono ?_
          rintro e w' ⟨rfl, rfl⟩
          go_wp2_with fail
          refine (two_rat z HT2 HA).mono ?_
          rintro e w' ⟨rfl, rfl⟩
          go_wp2_with fail
          go_roundg (n + 2 - (j + 1))
          case measure => omega
          case rel => exact ⟨j + 1, by omega, by simp only [Value.int.injEq, true_and]; omega, by omega, HT2⟩
        · obtain rfl : j = n + 2 := by omega
          have hzn : ¬ (((n + 2 : Nat) : Int) - 1 ≤ (n : Int)) := by omega
          obtain ⟨z, hz⟩ : ∃ z, ((n + 2 : Nat) : Int) - 1 = z := ⟨_, rfl⟩
          rw [hz] at hzn
          rw [hz]
          go_wp2_with fail
          refine (works_any _).mono ?_
          rintro e w' ⟨rfl, hb⟩
          go_wp2_with fail
          go_ret
          exact ⟨rfl, HT2.out.bel.trans (hb.mono HT2.out.bel.size)⟩
set_option maxRecDepth 100000 in
theorem walk (n : Int) (A : Option Addr) (cv : Nat) (l : List Int) (w : World) (_ : (Lit.int .i64 n).wf = true) (hi : Ints w (.slice A l.length cv) l) :
    Calls Try.prog 3 #[.int .i64 n, .slice A l.length cv] w fun e w' => e = .returned (.bool true) ∧ Below w.heap.size w w' := by
  by_cases hl : l.length ≤ 2000
  · have q1 : decide ((2000 : Int) < (l.length : Int)) = false := decide_eq_false (by omega)
    by_cases hn : 2 ≤ n ∧ n ≤ 7
    · obtain ⟨m, rfl⟩ : ∃ m : Nat, n = (m : Int) := ⟨n.toNat, by omega⟩
      exact walk_near m A cv l w (by omega) (by omega) hl hi
    · have HN := Lib.hid (fun W => new_no n hn W)
      have HR := Lib.hid (fun W => rnew_no n hn W)
      clear hi hn
      go_enter Try.func3, Try.ntmps3
      go_wp2_with fail
      refine (HN.out _).mono ?_
      rintro e w1 ⟨rfl, rfl⟩
      go_wp2_with fail
      refine (HR.out _).mono ?_
      rintro e w1 ⟨rfl, rfl⟩
      go_wp2_with fail
      refine (works_any _).mono ?_
      rintro e w2 ⟨rfl, hb⟩
      go_wp2_with fail
      go_ret
      exact ⟨rfl, hb⟩
  · have q1 : decide ((2000 : Int) < (l.length : Int)) = true := decide_eq_true (by omega)
    clear hi
    go_enter Try.func3, Try.ntmps3
    go_wp2_with fail
    go_ret
    exact ⟨rfl, Below.refl _ _⟩
end Go.Proofs.Ytljlighgjjiagaa.clocksPlayW
