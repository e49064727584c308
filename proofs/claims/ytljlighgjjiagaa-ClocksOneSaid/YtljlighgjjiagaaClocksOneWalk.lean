/-
  The walk of the law ClocksOne.
-/
import Derived.Test.YtljlighgjjiagaaKList
import Derived.Test.YtljlighgjjiagaaKSum
import Derived.Test.YtljlighgjjiagaaRows
import Derived.Deep.LoopGhost
namespace Go.Proofs.Ytljlighgjjiagaa.clocksOneW
open Go.RowKit
set_option maxRecDepth 100000 in
set_option maxHeartbeats 8000000 in
theorem walk_near (q : Nat) (hq : q < 256) (A : Option Addr) (cv : Nat) (l : List Int) (w : World) (hl : l.length ≤ 1000) (hi : Ints w (.slice A l.length cv) l) :
    Calls Try.prog 5 #[.int .u8 (q : Int), .slice A l.length cv] w fun e w' => e = .returned (.bool true) ∧ Below w.heap.size w w' := by
  obtain ⟨n, hn⟩ : ∃ n, 2 + q % 6 = n := ⟨_, rfl⟩
  have h1 : 2 ≤ n := by omega
  have h2 : n ≤ 7 := by omega
  have hqr : (q : Int).tmod 6 = (q : Int) % 6 := Int.tmod_eq_emod_of_nonneg (by omega)
  have hqn : IntKind.i64.wrap (2 + (q : Int) % 6) = (n : Int) := by rw [IntWalk.i64_in _ (by omega)]; omega
  obtain ⟨A0, c0, e0, hlc, hcm, _, hcell⟩ := hi
  injection e0 with e0 _ e1
  subst e0 e1
  unfold maxLen at hcm
  have q1 : decide ((1000 : Int) < (l.length : Int)) = false := decide_eq_false (by omega)
  have HC := Lib.hid hcell
  have HNew := Lib.hid (l_new n h1 h2 w)
  have HG := Lib.hid (show (Clo.new n).l.length = n by simp [Clo.new])
  have HS0 := Lib.hid (show (Clo.new n).l.sum = 0 by simp [Clo.new])
  have HK0 : Hid (Clo.skew (Clo.new n).l ≤ (Clo.new n).w) := by
    refine Lib.hid ?_
    have g := Clo.new_good h1 h2
    obtain ⟨a, b, ha, hb, e⟩ := Clo.skew_two (l := (Clo.new n).l) (by have := g.n2; omega)
    have z := fun i => show (Clo.new n).l.getD i 0 = 0 by simp [Clo.new, List.getD, List.getElem?_replicate]; split <;> rfl
    rw [z a, z b] at e
    rw [e]
    exact Int.le_refl 0
  clear hcell
  go_enter Try.func5, Try.ntmps5
  go_wp2_with fail
  refine HNew.out.mono ?_
  rintro e w1 ⟨c, rfl, H1⟩
  clear HNew
  go_wp2_with fail
  go_loopg [8, 9] l.length (fun kx dv iv wr => ∃ (i : Nat) (C : Clo.Cs) (d : Int), i ≤ l.length ∧ dv = .int .i64 d ∧ iv = .int .i64 (i : Int) ∧ l.length - i ≤ kx ∧ 0 ≤ d ∧ d ≤ (i : Int) ∧ Hid (C.l.length = n) ∧ Hid (C.l.sum = d) ∧ Hid (Clo.skew C.l ≤ C.w) ∧ Hid (OnL w c C [] wr))
  case atStart => exact ⟨0, _, 0, Nat.zero_le _, rfl, rfl, by omega, by omega, by omega, HG, HS0, HK0, H1⟩
  case round =>
    obtain ⟨i, C, d, hil, rfl, rfl, hik, hd0, hdi, HN, HD, HK, HO⟩ := hrel
    clear H1 HG HS0 HK0
    by_cases hlt : i < l.length
    · obtain ⟨b, off, rfl, hbw, hc⟩ := HC.out (by omega)
      have ci := hc i hlt
      obtain ⟨s, hs⟩ : ∃ s, l.getD i 0 = s := ⟨_, rfl⟩
      rw [hs] at ci
      clear hc hs
      have CL := Lib.hid (fun (X : World) (D : Clo.Cs) (ls : List (Value × List Int)) (h : OnL w c D ls X) => (h.1.2.2.cell (p := ⟨b, off + i, none⟩) hbw).trans ci)
      obtain ⟨K, HKq⟩ : ∃ q, Hid (Clo.skew C.l = q) := ⟨_, rfl⟩
      obtain ⟨W, HWq⟩ : ∃ j, Hid (C.w = j) := ⟨_, rfl⟩
      have hg := HO.out.1.1.good
      have HKr := hg.skew
      rw [HKq.out] at HKr
      rcases Clo.one_tick hg s (by rw [HD.out]; omega) with ⟨j, rfl, hj, ht, hsum, hget⟩ | ⟨hs, ht⟩
      · have hst := Clo.skew_step hj
        rw [HN.out] at hj
        obtain ⟨C', hC'⟩ : ∃ C', Clo.tick C j = C' := ⟨_, rfl⟩
        have hcl : C.l.set j (C.l.getD j 0 + 1) = C'.l := by rw [← hC']; rfl
        have hcw : C'.w = max C.w (Clo.skew C'.l) := by rw [← hC']; rfl
        rw [hcl] at hst
        rw [hC'] at ht hsum hget
        have HT := Lib.hid ht
        have HG' := Lib.hid hget
        obtain ⟨K', hK'⟩ : ∃ q, Clo.skew C'.l = q := ⟨_, rfl⟩
        rw [hK'] at hcw hst
        rw [HKq.out] at hst
        rw [HWq.out] at hcw
        have HW' := Lib.hid hcw
        have HD' := Lib.hid (hsum.trans (by rw [HD.out]))
        have HK' := Lib.hid hK'
        have HKw : Hid (Clo.skew C'.l ≤ C'.w) := Lib.hid (by rw [hK', hcw]; exact Int.le_max_right _ _)
        have HN' : Hid (C'.l.length = n) := Lib.hid (by rw [← hcl, List.length_set]; exact HN.out)
        have HGd : Hid (Clo.Good C') := Lib.hid (by have := (hg.ticked (j : Int)).1; rw [ht] at this; exact this)
        have t1 : decide (K + 1 < K') = false := decide_eq_false (by omega)
        have t2 : decide (K' < K - 1) = false := decide_eq_false (by omega)
        have hKw : IntKind.i64.wrap (K + 1) = K + 1 := IntWalk.i64_in _ (by omega)
        have hKw' : IntKind.i64.wrap (K - 1) = K - 1 := IntWalk.i64_in _ (by omega)
        have hdw : IntKind.i64.wrap (d + 1) = d + 1 := IntWalk.i64_in _ (by omega)
        clear ht hsum hget hcl hcw hK' hC' hst HK HD
        go_wp2_with fail
        refine (l_all n HO HN).mono ?_
        rintro e w2 ⟨A2, c2, rfl, H2⟩
        clear HO
        go_wp2_with fail
        refine (l_skew H2 HKq).mono ?_
        rintro e w3 ⟨rfl, H3⟩
        clear H2
        go_wp2_with fail
        refine (l_worst H3 HWq).mono ?_
        rintro e w4 ⟨rfl, rfl⟩
        have z3 := CL.out _ _ _ H3.out
        go_wp2_with fail
        refine (l_tick (j : Int) H3 HT).mono ?_
        rintro e w4 ⟨rfl, H4⟩
        clear H3 z3
        go_wp2_with fail
        refine (l_all n H4 HN').mono ?_
        rintro e w5 ⟨A5, c5, rfl, H5⟩
        clear H4
        go_wp2_with fail
        go_loopg [17, 18] n (fun kx sv kv wx => ∃ (k : Nat) (u : Int), k ≤ n ∧ sv = .int .i64 u ∧ kv = .int .i64 (k : Int) ∧ n - k ≤ kx ∧ Hid ((C'.l.take k).sum = u) ∧ Hid (OnL w c C' [(.slice A5 n c5, C'.l), (.slice A2 n c2, C.l)] wx))
        case atStart => exact ⟨0, 0, Nat.zero_le _, rfl, rfl, by omega, rfl, H5⟩
        case round =>
          obtain ⟨k, u, hk, rfl, rfl, hkk, HU, H6⟩ := hrel
          clear H5
          by_cases hkn : k < n
          · obtain ⟨b5, o5, rfl, _, z5⟩ := l_at H6.out (List.mem_cons_self ..) (i := k) (by rw [HN'.out]; exact hkn)
            obtain ⟨b2, o2, rfl, _, z2⟩ := l_at H6.out (List.mem_cons_of_mem _ (List.mem_cons_self ..)) (i := k) (by rw [HN.out]; exact hkn)
            have z3 := CL.out _ _ _ H6.out
            have hy := hg.at_ (i := k) (by rw [HN.out]; exact hkn)
            have hu := Clo.sum_take_le (fun x hx => (HGd.out.r x hx).1) k
            rw [HU.out, HD'.out] at hu
            have HU' := Lib.hid (Clo.sum_take (l := C'.l) (k := k) (by rw [HN'.out]; exact hkn))
            rw [HU.out] at HU'
            by_cases hkj : k = j
            · subst hkj
              rw [HG'.out k, if_pos rfl] at z5 HU'
              obtain ⟨y, hyq⟩ : ∃ y, C.l.getD k 0 = y := ⟨_, rfl⟩
              rw [hyq] at z5 z2 hy HU'
              clear hyq
              have hyw : IntKind.i64.wrap (y + 1) = y + 1 := IntWalk.i64_in _ (by omega)
              have huw : IntKind.i64.wrap (u + (y + 1)) = u + (y + 1) := IntWalk.i64_in _ (by omega)
              go_wp2_with fail
              go_roundg (n - (k + 1))
              case measure => omega
              case rel => exact ⟨k + 1, _, by omega, rfl, by go_num, by omega, HU', H6⟩
            · rw [HG'.out k, if_neg hkj] at z5 HU'
              obtain ⟨y, hyq⟩ : ∃ y, C.l.getD k 0 = y := ⟨_, rfl⟩
              rw [hyq] at z5 z2 hy HU'
              clear hyq
              have huw : IntKind.i64.wrap (u + y) = u + y := IntWalk.i64_in _ (by omega)
              have hkj' : ((k : Int) == (j : Int)) = false := by simp only [beq_eq_false_iff_ne, ne_eq]; omega
              go_wp2_with fail
              go_roundg (n - (k + 1))
              case measure => omega
              case rel => exact ⟨k + 1, _, by omega, rfl, by go_num, by omega, HU', H6⟩
          · obtain rfl : k = n := by omega
            have hu : u = d + 1 := by
              have := HU.out
              rw [List.take_of_length_le (by rw [HN'.out]; exact Nat.le_refl _), HD'.out] at this
              exact this.symm
            subst hu
            go_wp2_with fail
            refine (l_skew H6 HK').mono ?_
            rintro e w7 ⟨rfl, H7⟩
            clear H6
            go_wp2_with fail
            refine (l_worst H7 HW').mono ?_
            rintro e w8 ⟨rfl, rfl⟩
            have H8 : Hid (OnL w c C' [] w7) := Lib.hid ⟨H7.out.1, fun p hp => by cases hp⟩
            clear H7
            go_wp2_with fail
            go_roundg (l.length - (i + 1))
            case measure => omega
            case rel => exact ⟨i + 1, C', d + 1, by omega, rfl, by go_num, by omega, by omega, by omega, HN', HD', HKw, H8⟩
      · rw [HN.out] at hs
        have hs' : s < 0 ∨ (0 ≤ s ∧ (n : Int) ≤ s) := by omega
        clear hs
        rcases hs' with hs | ⟨hs, hs2⟩
        · have HT := Lib.hid ht
          have HW' : Hid (C.w = max W K) := Lib.hid (by have := HK.out; rw [HKq.out, HWq.out] at this; rw [HWq.out, Int.max_eq_left this])
          have t1 : decide (K + 1 < K) = false := decide_eq_false (by omega)
          have t2 : decide (K < K - 1) = false := decide_eq_false (by omega)
          have hKw : IntKind.i64.wrap (K + 1) = K + 1 := IntWalk.i64_in _ (by omega)
          have hKw' : IntKind.i64.wrap (K - 1) = K - 1 := IntWalk.i64_in _ (by omega)
          clear ht
          go_wp2_with fail
          refine (l_all n HO HN).mono ?_
          rintro e w2 ⟨A2, c2, rfl, H2⟩
          clear HO
          go_wp2_with fail
          refine (l_skew H2 HKq).mono ?_
          rintro e w3 ⟨rfl, H3⟩
          clear H2
          go_wp2_with fail
          refine (l_worst H3 HWq).mono ?_
          rintro e w4 ⟨rfl, rfl⟩
          have z3 := CL.out _ _ _ H3.out
          go_wp2_with fail
          refine (l_tick s H3 HT).mono ?_
          rintro e w4 ⟨rfl, H4⟩
          clear H3 z3
          go_wp2_with fail
          refine (l_all n H4 HN).mono ?_
          rintro e w5 ⟨A5, c5, rfl, H5⟩
          clear H4
          go_wp2_with fail
          go_loopg [17, 18] n (fun kx sv kv wx => ∃ (k : Nat) (u : Int), k ≤ n ∧ sv = .int .i64 u ∧ kv = .int .i64 (k : Int) ∧ n - k ≤ kx ∧ Hid ((C.l.take k).sum = u) ∧ Hid (OnL w c C [(.slice A5 n c5, C.l), (.slice A2 n c2, C.l)] wx))
          case atStart => exact ⟨0, 0, Nat.zero_le _, rfl, rfl, by omega, rfl, H5⟩
          case round =>
            obtain ⟨k, u, hk, rfl, rfl, hkk, HU, H6⟩ := hrel
            clear H5
            have z3 := CL.out _ _ _ H6.out
            by_cases hkn : k < n
            · obtain ⟨b5, o5, rfl, _, z5⟩ := l_at H6.out (List.mem_cons_self ..) (i := k) (by rw [HN.out]; exact hkn)
              obtain ⟨b2, o2, rfl, _, z2⟩ := l_at H6.out (List.mem_cons_of_mem _ (List.mem_cons_self ..)) (i := k) (by rw [HN.out]; exact hkn)
              have hy := hg.at_ (i := k) (by rw [HN.out]; exact hkn)
              have hu := Clo.sum_take_le (fun x hx => (hg.r x hx).1) k
              rw [HU.out, HD.out] at hu
              have HU' := Lib.hid (Clo.sum_take (l := C.l) (k := k) (by rw [HN.out]; exact hkn))
              rw [HU.out] at HU'
              obtain ⟨y, hyq⟩ : ∃ y, C.l.getD k 0 = y := ⟨_, rfl⟩
              rw [hyq] at z5 z2 hy HU'
              clear hyq
              have huw : IntKind.i64.wrap (u + y) = u + y := IntWalk.i64_in _ (by omega)
              go_wp2_with fail
              go_roundg (n - (k + 1))
              case measure => omega
              case rel => exact ⟨k + 1, _, by omega, rfl, by go_num, by omega, HU', H6⟩
            · obtain rfl : k = n := by omega
              have hu : u = d := by
                have := HU.out
                rw [List.take_of_length_le (by rw [HN.out]; exact Nat.le_refl _), HD.out] at this
                exact this.symm
              subst hu
              go_wp2_with fail
              refine (l_skew H6 HKq).mono ?_
              rintro e w7 ⟨rfl, H7⟩
              clear H6 z3
              go_wp2_with fail
              have z7 := CL.out _ _ _ H7.out
              refine (l_worst H7 HW').mono ?_
              rintro e w8 ⟨rfl, rfl⟩
              have H8 : Hid (OnL w c C [] w7) := Lib.hid ⟨H7.out.1, fun p hp => by cases hp⟩
              clear H7
              go_wp2_with fail
              go_roundg (l.length - (i + 1))
              case measure => omega
              case rel => exact ⟨i + 1, C, u, by omega, rfl, by go_num, by omega, by omega, by omega, HN, HD, HK, H8⟩
        · have HT := Lib.hid ht
          have HW' : Hid (C.w = max W K) := Lib.hid (by have := HK.out; rw [HKq.out, HWq.out] at this; rw [HWq.out, Int.max_eq_left this])
          have t1 : decide (K + 1 < K) = false := decide_eq_false (by omega)
          have t2 : decide (K < K - 1) = false := decide_eq_false (by omega)
          have hKw : IntKind.i64.wrap (K + 1) = K + 1 := IntWalk.i64_in _ (by omega)
          have hKw' : IntKind.i64.wrap (K - 1) = K - 1 := IntWalk.i64_in _ (by omega)
          clear ht
          go_wp2_with fail
          refine (l_all n HO HN).mono ?_
          rintro e w2 ⟨A2, c2, rfl, H2⟩
          clear HO
          go_wp2_with fail
          refine (l_skew H2 HKq).mono ?_
          rintro e w3 ⟨rfl, H3⟩
          clear H2
          go_wp2_with fail
          refine (l_worst H3 HWq).mono ?_
          rintro e w4 ⟨rfl, rfl⟩
          have z3 := CL.out _ _ _ H3.out
          go_wp2_with fail
          refine (l_tick s H3 HT).mono ?_
          rintro e w4 ⟨rfl, H4⟩
          clear H3 z3
          go_wp2_with fail
          refine (l_all n H4 HN).mono ?_
          rintro e w5 ⟨A5, c5, rfl, H5⟩
          clear H4
          go_wp2_with fail
          go_loopg [17, 18] n (fun kx sv kv wx => ∃ (k : Nat) (u : Int), k ≤ n ∧ sv = .int .i64 u ∧ kv = .int .i64 (k : Int) ∧ n - k ≤ kx ∧ Hid ((C.l.take k).sum = u) ∧ Hid (OnL w c C [(.slice A5 n c5, C.l), (.slice A2 n c2, C.l)] wx))
          case atStart => exact ⟨0, 0, Nat.zero_le _, rfl, rfl, by omega, rfl, H5⟩
          case round =>
            obtain ⟨k, u, hk, rfl, rfl, hkk, HU, H6⟩ := hrel
            clear H5
            have z3 := CL.out _ _ _ H6.out
            by_cases hkn : k < n
            · obtain ⟨b5, o5, rfl, _, z5⟩ := l_at H6.out (List.mem_cons_self ..) (i := k) (by rw [HN.out]; exact hkn)
              obtain ⟨b2, o2, rfl, _, z2⟩ := l_at H6.out (List.mem_cons_of_mem _ (List.mem_cons_self ..)) (i := k) (by rw [HN.out]; exact hkn)
              have hy := hg.at_ (i := k) (by rw [HN.out]; exact hkn)
              have hu := Clo.sum_take_le (fun x hx => (hg.r x hx).1) k
              rw [HU.out, HD.out] at hu
              have HU' := Lib.hid (Clo.sum_take (l := C.l) (k := k) (by rw [HN.out]; exact hkn))
              rw [HU.out] at HU'
              obtain ⟨y, hyq⟩ : ∃ y, C.l.getD k 0 = y := ⟨_, rfl⟩
              rw [hyq] at z5 z2 hy HU'
              clear hyq
              have huw : IntKind.i64.wrap (u + y) = u + y := IntWalk.i64_in _ (by omega)
              go_wp2_with fail
              go_roundg (n - (k + 1))
              case measure => omega
              case rel => exact ⟨k + 1, _, by omega, rfl, by go_num, by omega, HU', H6⟩
            · obtain rfl : k = n := by omega
              have hu : u = d := by
                have := HU.out
                rw [List.take_of_length_le (by rw [HN.out]; exact Nat.le_refl _), HD.out] at this
                exact this.symm
              subst hu
              go_wp2_with fail
              refine (l_skew H6 HKq).mono ?_
              rintro e w7 ⟨rfl, H7⟩
              clear H6 z3
              go_wp2_with fail
              have z7 := CL.out _ _ _ H7.out
              refine (l_worst H7 HW').mono ?_
              rintro e w8 ⟨rfl, rfl⟩
              have H8 : Hid (OnL w c C [] w7) := Lib.hid ⟨H7.out.1, fun p hp => by cases hp⟩
              clear H7
              go_wp2_with fail
              go_roundg (l.length - (i + 1))
              case measure => omega
              case rel => exact ⟨i + 1, C, u, by omega, rfl, by go_num, by omega, by omega, by omega, HN, HD, HK, H8⟩
    · obtain rfl : i = l.length := by omega
      go_wp2_with fail
      refine (works_any _).mono ?_
      rintro e w' ⟨rfl, hb⟩
      go_wp2_with fail
      go_ret
      exact ⟨rfl, HO.out.1.2.2.trans (hb.mono HO.out.1.2.2.size)⟩
set_option maxRecDepth 100000 in
theorem walk (q : Nat) (A : Option Addr) (cv : Nat) (l : List Int) (w : World) (hq : q < 256) (hi : Ints w (.slice A l.length cv) l) :
    Calls Try.prog 5 #[.int .u8 (q : Int), .slice A l.length cv] w fun e w' => e = .returned (.bool true) ∧ Below w.heap.size w w' := by
  by_cases hl : l.length ≤ 1000
  · exact walk_near q hq A cv l w hl hi
  · have q1 : decide ((1000 : Int) < (l.length : Int)) = true := decide_eq_true (by omega)
    clear hi
    go_enter Try.func5, Try.ntmps5
    go_wp2_with fail
    go_ret
    exact ⟨rfl, Below.refl _ _⟩
end Go.Proofs.Ytljlighgjjiagaa.clocksOneW
