/-
  The walk of the law LeasesApart.
-/
import Derived.Test.YtopdjmjlnflhfaaBkOn
import Derived.Test.YtopdjmjlnflhfaaBkPure
import Derived.Test.YtopdjmjlnflhfaaBkActs
import Derived.Test.YtopdjmjlnflhfaaRows
import Derived.Lib.QuietBelow
import Derived.BigQuiet
namespace Go.Proofs.Ytopdjmjlnflhfaa.leasesApartW
open Go.RowKit Go.Sort Go.Maps
theorem may_grown {w : World} {p m n : Nat} {B : Lea.Bk} {s e t : Int} {r : Bool} (h : IsBk w p m n B) (hs : (Lit.int .i64 s).wf = true) (hr : Lea.may B s e t = r) (d : Nat) (os : Array Obj) :
    Calls Try.prog 7 #[.pointer (some ⟨p, 0, none⟩), .int .i64 s, .int .i64 e, .int .i64 t] (grow (redrawn w d) os) fun x w'' => x = .returned (.bool r) ∧ ∃ p : Regrown, w'' = grow (redrawn w p.d) p.os :=
  Calls.regrown_of ((may_any (h.below (below_regrown w d os)) hs).mono fun x w' ⟨h1, h2⟩ => ⟨by rw [← hr]; exact h1, h2⟩)
/-- The acts' slice as the walk carries it. -/
def Here (w : World) (v : Value) (l : List LA) : Prop := LActs w v l ∧ ∀ x ∈ l, LA.Wf x
set_option maxRecDepth 100000 in
set_option maxHeartbeats 16000000 in
theorem walk (v : Value) (l : List LA) (n1 n2 : Nat) (w : World) (hl : LActs w v l) (hw : ∀ x ∈ l, LA.Wf x) (hn1 : n1 < 256) (hn2 : n2 < 256) :
    Calls Try.prog 5 #[v, .int .u8 (n1 : Int), .int .u8 (n2 : Int)] w fun x w' => x = .returned (.bool true) ∧ Below w.heap.size w w' := by
  obtain ⟨A, cv, rfl, hcv, hmx, hcell⟩ := hl
  unfold maxLen at hmx
  have HC := Lib.hid hcell
  have HW := Lib.hid hw
  clear hcell hw
  obtain ⟨a, ha⟩ : ∃ a : Int, (n1 : Int) % 4 = a := ⟨_, rfl⟩
  obtain ⟨c, hc⟩ : ∃ c : Int, (n2 : Int) % 4 = c := ⟨_, rfl⟩
  have ha0 : 0 ≤ a := by omega
  have ha4 : a < 4 := by omega
  have hc0 : 0 ≤ c := by omega
  have hc4 : c < 4 := by omega
  have hac : (n1 : Int).tmod 4 = a := by rw [Int.tmod_eq_emod_of_nonneg (by omega)]; exact ha
  have hcc : (n2 : Int).tmod 4 = c := by rw [Int.tmod_eq_emod_of_nonneg (by omega)]; exact hc
  have hwa : Hid ((Lit.int .i64 a).wf = true) := Lib.hid (WalkArith.wf_i64 (by omega))
  by_cases h100 : 100 < l.length
  · have hd : decide ((100 : Int) < (l.length : Int)) = true := decide_eq_true (by omega)
    go_enter Try.func5, Try.ntmps5
    go_wp2_with fail
    refine (lives_any _).mono ?_
    rintro x w2 ⟨rfl, hb2⟩
    go_wp2_with fail
    go_ret
    exact ⟨rfl, hb2⟩
  have hd : decide ((100 : Int) < (l.length : Int)) = false := decide_eq_false (by omega)
  by_cases hq : a = c
  · have hq' : (a == c) = true := by simpa using hq
    subst hq
    go_enter Try.func5, Try.ntmps5
    go_wp2_with fail
    refine (lives_any _).mono ?_
    rintro x w2 ⟨rfl, hb2⟩
    go_wp2_with fail
    go_ret
    exact ⟨rfl, hb2⟩
  have hq' : (a == c) = false := by simpa using hq
  have HQ : Hid (a ≠ c) := Lib.hid hq
  have h100' : l.length ≤ 100 := by omega
  clear hq h100
  go_enter Try.func5, Try.ntmps5
  go_wp2_with fail
  refine (one_new 0 false (by decide) w rfl).mono ?_
  rintro x w1 ⟨p, m, rfl, H1⟩
  go_wp2_with fail
  refine (two_new 0 false (by decide) H1 rfl).mono ?_
  rintro x w2 ⟨q, k, rfl, H2⟩
  clear H1
  go_wp2_with fail
  go_loopw [11] (fun iv wr => ∃ (i n j : Nat) (B C : Lea.Bk), i ≤ l.length ∧ iv = .int .i64 (i : Int) ∧ n ≤ i ∧ j ≤ i ∧ Hid (Lea.Alike a B C) ∧ Hid (Two w p m n B q k j C wr)) (fun iv _ => l.length - (intOf iv).toNat)
  case atStart => exact ⟨0, 0, 0, _, _, Nat.zero_le _, rfl, Nat.le_refl _, Nat.le_refl _, Lib.hid ⟨rfl, rfl⟩, H2⟩
  case round =>
    obtain ⟨i, n, j, B, C, hi, rfl, hn, hj, HA, H3⟩ := hrel
    clear H2
    by_cases hlt : i < l.length
    · obtain ⟨b, off, rfl, hbw, hcs⟩ := HC.out (by omega)
      obtain ⟨c0, c1, c2, c3⟩ := hcs i hlt
      obtain ⟨hk0, hk1, hs, he, ht⟩ := HW.out _ (List.getElem_mem hlt)
      have hbel := H3.out.a.bel
      replace c0 := (hbel.cell (p := ⟨b, off + i * 4, none⟩) hbw).trans c0
      replace c1 := (hbel.cell (p := ⟨b, off + i * 4 + 1, none⟩) hbw).trans c1
      replace c2 := (hbel.cell (p := ⟨b, off + i * 4 + 2, none⟩) hbw).trans c2
      replace c3 := (hbel.cell (p := ⟨b, off + i * 4 + 3, none⟩) hbw).trans c3
      have hii : (i : Int) < (l.length : Int) := by omega
      have ht' := bounds_i64 ht
      generalize l[i].k = xk at *
      generalize l[i].s = xs at *
      generalize l[i].e = xe at *
      generalize l[i].t = xt at *
      replace hs := Lib.hid hs
      replace he := Lib.hid he
      replace ht := Lib.hid ht
      obtain ⟨WX, HX⟩ : ∃ W : World, Hid (W = wr.alloc (.cells #[.int .u8 xk, .int .i64 xs, .int .i64 xe, .int .i64 xt] 38)) := ⟨_, Lib.hid rfl⟩
      have HB : Hid (Below wr.heap.size wr WX) := Lib.hid (by rw [HX.out]; exact (Below.refl _ _).alloc (Nat.le_refl _) _)
      have hxb : WX.heap[wr.heap.size]? = some (.cells #[.int .u8 xk, .int .i64 xs, .int .i64 xe, .int .i64 xt] 38 (0, 0)) := by rw [HX.out]; exact heap_alloc_new _ _
      have hsz : wr.heap.size < WX.heap.size := lt_of_block hxb
      have H4 : Hid (Two w p m n B q k j C WX) := Lib.hid (H3.out.below HB.out)
      have HR : Hid (∀ X : World, X.heap[wr.heap.size]? = WX.heap[wr.heap.size]? → X.cell? ⟨wr.heap.size, 0, none⟩ = some (.int .u8 xk) ∧ X.cell? ⟨wr.heap.size, 1, none⟩ = some (.int .i64 xs) ∧ X.cell? ⟨wr.heap.size, 2, none⟩ = some (.int .i64 xe) ∧ X.cell? ⟨wr.heap.size, 3, none⟩ = some (.int .i64 xt)) := Lib.hid (by
        intro X hX
        rw [hxb] at hX
        exact ⟨cell_of_row X _ _ _ _ _ hX, cell_of_row X _ _ _ _ _ hX, cell_of_row X _ _ _ _ _ hX, cell_of_row X _ _ _ _ _ hX⟩)
      have HM : Hid (wr.heap.size ≠ m ∧ wr.heap.size ≠ k) := Lib.hid ⟨by have := H3.out.a.bk.mlt; omega, by have := H3.out.b.bk.mlt; omega⟩
      have HBG := Lib.hid hbel.size
      obtain ⟨d0, d1, d2, d3⟩ := HR.out WX rfl
      replace hxb := Lib.hid hxb
      clear H3 hbel hcs HC HW
      by_cases hneg : xt < 0
      · go_wp2_with (first | (rw [← HX.out]))
        go_roundw
        case rel => exact ⟨i + 1, n, j, B, C, by omega, by go_num, by omega, by omega, HA, H4⟩
        case measure => simp [intOf]; omega
      by_cases hsa : xs = a
      · obtain rfl : a = xs := hsa.symm
        have e1 : (a != a) = false := by simp
        have e2 : (a == a) = true := by simp
        have hk4 : xk % 4 = 0 ∨ xk % 4 = 1 ∨ xk % 4 = 2 ∨ xk % 4 = 3 := by omega
        have htm : xk.tmod 4 = xk % 4 := Int.tmod_eq_emod_of_nonneg hk0
        rcases hk4 with e | e | e | e
        · -- kind 0
          as_aux_lemma =>
            have HRY : Hid (∀ X : World, X.heap[wr.heap.size]? = WX.heap[wr.heap.size]? → _) := HR
            have HE := Lib.hid (HA.out.hold (t := xt))
            have HEm := Lib.hid (HA.out.may (e := xe) (t := xt))
            obtain ⟨ri, rb, hrr⟩ : ∃ ri rb, Lea.hold C a xt = (ri, rb) := ⟨_, _, rfl⟩
            have hrr1 := Lib.hid (HE.out.trans hrr)
            replace hrr := Lib.hid hrr
            obtain ⟨mb, hmb⟩ : ∃ mb, Lea.may C a xe xt = mb := ⟨_, rfl⟩
            have hmb1 := Lib.hid (HEm.out.trans hmb)
            replace hmb := Lib.hid hmb
            clear HE HEm
            go_wp2_with (first | (rw [← HX.out]))
            have hlx := H4.out.a.bel.size
            have hzy : wr.heap.size < _ := lt_of_block ((rfl).trans hxb.out)
            refine (holder_any H4.out.a.bk hwa.out).mono ?_
            rintro x w5 ⟨rfl, hb5⟩
            rw [hrr1.out]
            have hx5 := (hb5.block wr.heap.size hzy).trans (rfl)
            obtain ⟨d0, d1, d2, d3⟩ := HRY.out w5 hx5
            replace hx5 := Lib.hid hx5
            have H5 := Lib.hid (H4.out.below hb5)
            have hz5 := Nat.lt_of_lt_of_le hzy hb5.size
            clear H4 hb5
            go_wp2_with fail
            refine (holder_any H5.out.b.bk hwa.out).mono ?_
            rintro x w6 ⟨rfl, hb6⟩
            rw [hrr.out]
            obtain ⟨d0, d1, d2, d3⟩ := HRY.out w6 ((hb6.block wr.heap.size hz5).trans hx5.out)
            have H6 := Lib.hid (H5.out.below hb6)
            clear H5 hb6 hx5 hrr hrr1 HRY
            have cP := may_grown H6.out.a.bk hwa.out hmb1.out
            have cQ := may_grown H6.out.b.bk hwa.out hmb.out
            replace cP := Lib.hid cP
            replace cQ := Lib.hid cQ
            have D2 := fun d os => cell_regrown d2 d os
            have D3 := fun d os => cell_regrown d3 d os
            have t1 : (ri != ri) = false := by simp
            have t2 : (rb != rb) = false := by simp
            have t3 : (mb != mb) = false := by simp
            go_wp2_with fail
            refine wp_region_quiet_below (by kernel_rfl) (by kernel_rfl) ?_
            repeat (go_big_quiet_step (first | with_reducible exact cP.out _ _ | with_reducible exact cQ.out _ _))
            refine wpQuiet_nil ?_
            intro _ hw'
            obtain ⟨⟨dq, osq⟩, hw''⟩ := hw'
            subst hw''
            have hbq := below_regrown w6 dq osq
            generalize grow (redrawn w6 dq) osq = w7 at *
            have H7 := Lib.hid (H6.out.below hbq)
            clear H6 D2 D3 cP cQ
            go_wp2_with fail
            go_roundw
            case rel => exact ⟨i + 1, n, j, B, C, by omega, by go_num, by omega, by omega, HA, H7⟩
            case measure => simp [intOf]; omega
        · -- kind 1
          as_aux_lemma =>
            obtain ⟨B', r1, hB'⟩ : ∃ B' r, Lea.grant B a xe xt = (B', r) := ⟨_, _, rfl⟩
            obtain ⟨C', r2, hC'⟩ : ∃ C' r, Lea.grant C a xe xt = (C', r) := ⟨_, _, rfl⟩
            have HA' : Hid (Lea.Alike a B' C') := Lib.hid (by have := HA.out.grant_both (e := xe) (t := xt); rw [hB', hC'] at this; exact this)
            replace hC' := Lib.hid hC'
            replace hB' := Lib.hid hB'
            go_wp2_with (first | (rw [← HX.out]))
            refine (grant_any H4.out.a.bk (by omega) he.out ht.out).mono ?_
            rintro x w3 ⟨rfl, hI, hF⟩
            rw [hB'.out] at hI ⊢
            have hx3 := hF.block wr.heap.size hsz HM.out.1
            obtain ⟨d0, d1, d2, d3⟩ := HR.out w3 hx3
            replace hx3 := Lib.hid hx3
            have H8 := Lib.hid (H4.out.put hI hF)
            clear H4 hI hF
            go_wp2_with fail
            refine (grant_any H8.out.b.bk (by omega) he.out ht.out).mono ?_
            rintro x w4 ⟨rfl, hI, hF⟩
            rw [hC'.out] at hI ⊢
            have hx4 := (hF.block wr.heap.size (lt_of_block (hx3.out.trans hxb.out)) HM.out.2).trans hx3.out
            obtain ⟨d0, d1, d2, d3⟩ := HR.out w4 hx4
            replace hx4 := Lib.hid hx4
            have H9 := Lib.hid (H8.out.swap.put hI hF).swap
            clear H8 hI hF hx3
            have HRY : Hid (∀ X : World, X.heap[wr.heap.size]? = WX.heap[wr.heap.size]? → _) := HR
            have HE := Lib.hid (HA'.out.hold (t := xt))
            have HEm := Lib.hid (HA'.out.may (e := xe) (t := xt))
            obtain ⟨ri, rb, hrr⟩ : ∃ ri rb, Lea.hold C' a xt = (ri, rb) := ⟨_, _, rfl⟩
            have hrr1 := Lib.hid (HE.out.trans hrr)
            replace hrr := Lib.hid hrr
            obtain ⟨mb, hmb⟩ : ∃ mb, Lea.may C' a xe xt = mb := ⟨_, rfl⟩
            have hmb1 := Lib.hid (HEm.out.trans hmb)
            replace hmb := Lib.hid hmb
            clear HE HEm
            go_wp2_with fail
            have hlx := H9.out.a.bel.size
            have hzy : wr.heap.size < _ := lt_of_block ((hx4.out).trans hxb.out)
            refine (holder_any H9.out.a.bk hwa.out).mono ?_
            rintro x w5 ⟨rfl, hb5⟩
            rw [hrr1.out]
            have hx5 := (hb5.block wr.heap.size hzy).trans (hx4.out)
            obtain ⟨d0, d1, d2, d3⟩ := HRY.out w5 hx5
            replace hx5 := Lib.hid hx5
            have H5 := Lib.hid (H9.out.below hb5)
            have hz5 := Nat.lt_of_lt_of_le hzy hb5.size
            clear H9 hb5
            go_wp2_with fail
            refine (holder_any H5.out.b.bk hwa.out).mono ?_
            rintro x w6 ⟨rfl, hb6⟩
            rw [hrr.out]
            obtain ⟨d0, d1, d2, d3⟩ := HRY.out w6 ((hb6.block wr.heap.size hz5).trans hx5.out)
            have H6 := Lib.hid (H5.out.below hb6)
            clear H5 hb6 hx5 hrr hrr1 HRY
            have cP := may_grown H6.out.a.bk hwa.out hmb1.out
            have cQ := may_grown H6.out.b.bk hwa.out hmb.out
            replace cP := Lib.hid cP
            replace cQ := Lib.hid cQ
            have D2 := fun d os => cell_regrown d2 d os
            have D3 := fun d os => cell_regrown d3 d os
            have t1 : (ri != ri) = false := by simp
            have t2 : (rb != rb) = false := by simp
            have t3 : (mb != mb) = false := by simp
            go_wp2_with fail
            refine wp_region_quiet_below (by kernel_rfl) (by kernel_rfl) ?_
            repeat (go_big_quiet_step (first | with_reducible exact cP.out _ _ | with_reducible exact cQ.out _ _))
            refine wpQuiet_nil ?_
            intro _ hw'
            obtain ⟨⟨dq, osq⟩, hw''⟩ := hw'
            subst hw''
            have hbq := below_regrown w6 dq osq
            generalize grow (redrawn w6 dq) osq = w7 at *
            have H7 := Lib.hid (H6.out.below hbq)
            clear H6 D2 D3 cP cQ
            go_wp2_with fail
            go_roundw
            case rel => exact ⟨i + 1, n + 1, j + 1, B', C', by omega, by go_num, by omega, by omega, HA', H7⟩
            case measure => simp [intOf]; omega
        · -- kind 2
          as_aux_lemma =>
            obtain ⟨B', r1, hB'⟩ : ∃ B' r, Lea.grant B a xe xt = (B', r) := ⟨_, _, rfl⟩
            obtain ⟨C', r2, hC'⟩ : ∃ C' r, Lea.grant C a xe xt = (C', r) := ⟨_, _, rfl⟩
            have HA' : Hid (Lea.Alike a B' C') := Lib.hid (by have := HA.out.grant_both (e := xe) (t := xt); rw [hB', hC'] at this; exact this)
            replace hC' := Lib.hid hC'
            replace hB' := Lib.hid hB'
            go_wp2_with (first | (rw [← HX.out]))
            refine (grant_any H4.out.a.bk (by omega) he.out ht.out).mono ?_
            rintro x w3 ⟨rfl, hI, hF⟩
            rw [hB'.out] at hI ⊢
            have hx3 := hF.block wr.heap.size hsz HM.out.1
            obtain ⟨d0, d1, d2, d3⟩ := HR.out w3 hx3
            replace hx3 := Lib.hid hx3
            have H8 := Lib.hid (H4.out.put hI hF)
            clear H4 hI hF
            go_wp2_with fail
            refine (grant_any H8.out.b.bk (by omega) he.out ht.out).mono ?_
            rintro x w4 ⟨rfl, hI, hF⟩
            rw [hC'.out] at hI ⊢
            have hx4 := (hF.block wr.heap.size (lt_of_block (hx3.out.trans hxb.out)) HM.out.2).trans hx3.out
            obtain ⟨d0, d1, d2, d3⟩ := HR.out w4 hx4
            replace hx4 := Lib.hid hx4
            have H9 := Lib.hid (H8.out.swap.put hI hF).swap
            clear H8 hI hF hx3
            have HRY : Hid (∀ X : World, X.heap[wr.heap.size]? = WX.heap[wr.heap.size]? → _) := HR
            have HE := Lib.hid (HA'.out.hold (t := xt))
            have HEm := Lib.hid (HA'.out.may (e := xe) (t := xt))
            obtain ⟨ri, rb, hrr⟩ : ∃ ri rb, Lea.hold C' a xt = (ri, rb) := ⟨_, _, rfl⟩
            have hrr1 := Lib.hid (HE.out.trans hrr)
            replace hrr := Lib.hid hrr
            obtain ⟨mb, hmb⟩ : ∃ mb, Lea.may C' a xe xt = mb := ⟨_, rfl⟩
            have hmb1 := Lib.hid (HEm.out.trans hmb)
            replace hmb := Lib.hid hmb
            clear HE HEm
            go_wp2_with fail
            have hlx := H9.out.a.bel.size
            have hzy : wr.heap.size < _ := lt_of_block ((hx4.out).trans hxb.out)
            refine (holder_any H9.out.a.bk hwa.out).mono ?_
            rintro x w5 ⟨rfl, hb5⟩
            rw [hrr1.out]
            have hx5 := (hb5.block wr.heap.size hzy).trans (hx4.out)
            obtain ⟨d0, d1, d2, d3⟩ := HRY.out w5 hx5
            replace hx5 := Lib.hid hx5
            have H5 := Lib.hid (H9.out.below hb5)
            have hz5 := Nat.lt_of_lt_of_le hzy hb5.size
            clear H9 hb5
            go_wp2_with fail
            refine (holder_any H5.out.b.bk hwa.out).mono ?_
            rintro x w6 ⟨rfl, hb6⟩
            rw [hrr.out]
            obtain ⟨d0, d1, d2, d3⟩ := HRY.out w6 ((hb6.block wr.heap.size hz5).trans hx5.out)
            have H6 := Lib.hid (H5.out.below hb6)
            clear H5 hb6 hx5 hrr hrr1 HRY
            have cP := may_grown H6.out.a.bk hwa.out hmb1.out
            have cQ := may_grown H6.out.b.bk hwa.out hmb.out
            replace cP := Lib.hid cP
            replace cQ := Lib.hid cQ
            have D2 := fun d os => cell_regrown d2 d os
            have D3 := fun d os => cell_regrown d3 d os
            have t1 : (ri != ri) = false := by simp
            have t2 : (rb != rb) = false := by simp
            have t3 : (mb != mb) = false := by simp
            go_wp2_with fail
            refine wp_region_quiet_below (by kernel_rfl) (by kernel_rfl) ?_
            repeat (go_big_quiet_step (first | with_reducible exact cP.out _ _ | with_reducible exact cQ.out _ _))
            refine wpQuiet_nil ?_
            intro _ hw'
            obtain ⟨⟨dq, osq⟩, hw''⟩ := hw'
            subst hw''
            have hbq := below_regrown w6 dq osq
            generalize grow (redrawn w6 dq) osq = w7 at *
            have H7 := Lib.hid (H6.out.below hbq)
            clear H6 D2 D3 cP cQ
            go_wp2_with fail
            go_roundw
            case rel => exact ⟨i + 1, n + 1, j + 1, B', C', by omega, by go_num, by omega, by omega, HA', H7⟩
            case measure => simp [intOf]; omega
        · -- kind 3
          as_aux_lemma =>
            obtain ⟨B', hB'⟩ : ∃ B', Lea.release B a xe = B' := ⟨_, rfl⟩
            obtain ⟨C', hC'⟩ : ∃ C', Lea.release C a xe = C' := ⟨_, rfl⟩
            have HA' : Hid (Lea.Alike a B' C') := Lib.hid (by have := HA.out.release_both (e := xe); rw [hB', hC'] at this; exact this)
            replace hC' := Lib.hid hC'
            replace hB' := Lib.hid hB'
            go_wp2_with (first | (rw [← HX.out]))
            refine (release_any H4.out.a.bk (by omega) hs.out).mono ?_
            rintro x w3 ⟨rfl, hI, hF⟩
            rw [hB'.out] at hI
            have hx3 := hF.block wr.heap.size hsz HM.out.1
            obtain ⟨d0, d1, d2, d3⟩ := HR.out w3 hx3
            replace hx3 := Lib.hid hx3
            have H8 := Lib.hid (H4.out.put hI hF)
            clear H4 hI hF
            go_wp2_with fail
            refine (release_any H8.out.b.bk (by omega) hs.out).mono ?_
            rintro x w4 ⟨rfl, hI, hF⟩
            rw [hC'.out] at hI
            have hx4 := (hF.block wr.heap.size (lt_of_block (hx3.out.trans hxb.out)) HM.out.2).trans hx3.out
            obtain ⟨d0, d1, d2, d3⟩ := HR.out w4 hx4
            replace hx4 := Lib.hid hx4
            have H9 := Lib.hid (H8.out.swap.put hI hF).swap
            clear H8 hI hF hx3
            have HRY : Hid (∀ X : World, X.heap[wr.heap.size]? = WX.heap[wr.heap.size]? → _) := HR
            have HE := Lib.hid (HA'.out.hold (t := xt))
            have HEm := Lib.hid (HA'.out.may (e := xe) (t := xt))
            obtain ⟨ri, rb, hrr⟩ : ∃ ri rb, Lea.hold C' a xt = (ri, rb) := ⟨_, _, rfl⟩
            have hrr1 := Lib.hid (HE.out.trans hrr)
            replace hrr := Lib.hid hrr
            obtain ⟨mb, hmb⟩ : ∃ mb, Lea.may C' a xe xt = mb := ⟨_, rfl⟩
            have hmb1 := Lib.hid (HEm.out.trans hmb)
            replace hmb := Lib.hid hmb
            clear HE HEm
            go_wp2_with fail
            have hlx := H9.out.a.bel.size
            have hzy : wr.heap.size < _ := lt_of_block ((hx4.out).trans hxb.out)
            refine (holder_any H9.out.a.bk hwa.out).mono ?_
            rintro x w5 ⟨rfl, hb5⟩
            rw [hrr1.out]
            have hx5 := (hb5.block wr.heap.size hzy).trans (hx4.out)
            obtain ⟨d0, d1, d2, d3⟩ := HRY.out w5 hx5
            replace hx5 := Lib.hid hx5
            have H5 := Lib.hid (H9.out.below hb5)
            have hz5 := Nat.lt_of_lt_of_le hzy hb5.size
            clear H9 hb5
            go_wp2_with fail
            refine (holder_any H5.out.b.bk hwa.out).mono ?_
            rintro x w6 ⟨rfl, hb6⟩
            rw [hrr.out]
            obtain ⟨d0, d1, d2, d3⟩ := HRY.out w6 ((hb6.block wr.heap.size hz5).trans hx5.out)
            have H6 := Lib.hid (H5.out.below hb6)
            clear H5 hb6 hx5 hrr hrr1 HRY
            have cP := may_grown H6.out.a.bk hwa.out hmb1.out
            have cQ := may_grown H6.out.b.bk hwa.out hmb.out
            replace cP := Lib.hid cP
            replace cQ := Lib.hid cQ
            have D2 := fun d os => cell_regrown d2 d os
            have D3 := fun d os => cell_regrown d3 d os
            have t1 : (ri != ri) = false := by simp
            have t2 : (rb != rb) = false := by simp
            have t3 : (mb != mb) = false := by simp
            go_wp2_with fail
            refine wp_region_quiet_below (by kernel_rfl) (by kernel_rfl) ?_
            repeat (go_big_quiet_step (first | with_reducible exact cP.out _ _ | with_reducible exact cQ.out _ _))
            refine wpQuiet_nil ?_
            intro _ hw'
            obtain ⟨⟨dq, osq⟩, hw''⟩ := hw'
            subst hw''
            have hbq := below_regrown w6 dq osq
            generalize grow (redrawn w6 dq) osq = w7 at *
            have H7 := Lib.hid (H6.out.below hbq)
            clear H6 D2 D3 cP cQ
            go_wp2_with fail
            go_roundw
            case rel => exact ⟨i + 1, n + 1, j + 1, B', C', by omega, by go_num, by omega, by omega, HA', H7⟩
            case measure => simp [intOf]; omega
      by_cases hsc : xs = c
      · obtain rfl : c = xs := hsc.symm
        have e1 : (c != a) = true := by simp; exact fun h => HQ.out h.symm
        have e2 : (c == a) = false := by simp; exact fun h => HQ.out h.symm
        have e3 : (c != c) = false := by simp
        have hk4 : xk % 4 = 0 ∨ xk % 4 = 1 ∨ xk % 4 = 2 ∨ xk % 4 = 3 := by omega
        have htm : xk.tmod 4 = xk % 4 := Int.tmod_eq_emod_of_nonneg hk0
        rcases hk4 with e | e | e | e
        · -- kind 0
          as_aux_lemma =>
            have HRY : Hid (∀ X : World, X.heap[wr.heap.size]? = WX.heap[wr.heap.size]? → _) := HR
            have HE := Lib.hid (HA.out.hold (t := xt))
            have HEm := Lib.hid (HA.out.may (e := xe) (t := xt))
            obtain ⟨ri, rb, hrr⟩ : ∃ ri rb, Lea.hold C a xt = (ri, rb) := ⟨_, _, rfl⟩
            have hrr1 := Lib.hid (HE.out.trans hrr)
            replace hrr := Lib.hid hrr
            obtain ⟨mb, hmb⟩ : ∃ mb, Lea.may C a xe xt = mb := ⟨_, rfl⟩
            have hmb1 := Lib.hid (HEm.out.trans hmb)
            replace hmb := Lib.hid hmb
            clear HE HEm
            go_wp2_with (first | (rw [← HX.out]))
            have hlx := H4.out.a.bel.size
            have hzy : wr.heap.size < _ := lt_of_block ((rfl).trans hxb.out)
            refine (holder_any H4.out.a.bk hwa.out).mono ?_
            rintro x w5 ⟨rfl, hb5⟩
            rw [hrr1.out]
            have hx5 := (hb5.block wr.heap.size hzy).trans (rfl)
            obtain ⟨d0, d1, d2, d3⟩ := HRY.out w5 hx5
            replace hx5 := Lib.hid hx5
            have H5 := Lib.hid (H4.out.below hb5)
            have hz5 := Nat.lt_of_lt_of_le hzy hb5.size
            clear H4 hb5
            go_wp2_with fail
            refine (holder_any H5.out.b.bk hwa.out).mono ?_
            rintro x w6 ⟨rfl, hb6⟩
            rw [hrr.out]
            obtain ⟨d0, d1, d2, d3⟩ := HRY.out w6 ((hb6.block wr.heap.size hz5).trans hx5.out)
            have H6 := Lib.hid (H5.out.below hb6)
            clear H5 hb6 hx5 hrr hrr1 HRY
            have cP := may_grown H6.out.a.bk hwa.out hmb1.out
            have cQ := may_grown H6.out.b.bk hwa.out hmb.out
            replace cP := Lib.hid cP
            replace cQ := Lib.hid cQ
            have D2 := fun d os => cell_regrown d2 d os
            have D3 := fun d os => cell_regrown d3 d os
            have t1 : (ri != ri) = false := by simp
            have t2 : (rb != rb) = false := by simp
            have t3 : (mb != mb) = false := by simp
            go_wp2_with fail
            refine wp_region_quiet_below (by kernel_rfl) (by kernel_rfl) ?_
            repeat (go_big_quiet_step (first | with_reducible exact cP.out _ _ | with_reducible exact cQ.out _ _))
            refine wpQuiet_nil ?_
            intro _ hw'
            obtain ⟨⟨dq, osq⟩, hw''⟩ := hw'
            subst hw''
            have hbq := below_regrown w6 dq osq
            generalize grow (redrawn w6 dq) osq = w7 at *
            have H7 := Lib.hid (H6.out.below hbq)
            clear H6 D2 D3 cP cQ
            go_wp2_with fail
            go_roundw
            case rel => exact ⟨i + 1, n, j, B, C, by omega, by go_num, by omega, by omega, HA, H7⟩
            case measure => simp [intOf]; omega
        · -- kind 1
          as_aux_lemma =>
            obtain ⟨B', r1, hB'⟩ : ∃ B' r, Lea.grant B c xe xt = (B', r) := ⟨_, _, rfl⟩
            have HA' : Hid (Lea.Alike a B' C) := Lib.hid (by have := HA.out.grant_off (s := c) (e := xe) (t := xt) HQ.out; rw [hB'] at this; exact this)
            replace hB' := Lib.hid hB'
            go_wp2_with (first | (rw [← HX.out]))
            refine (grant_any H4.out.a.bk (by omega) he.out ht.out).mono ?_
            rintro x w3 ⟨rfl, hI, hF⟩
            rw [hB'.out] at hI ⊢
            have hx3 := hF.block wr.heap.size hsz HM.out.1
            obtain ⟨d0, d1, d2, d3⟩ := HR.out w3 hx3
            replace hx3 := Lib.hid hx3
            have H8 := Lib.hid (H4.out.put hI hF)
            clear H4 hI hF
            have HRY : Hid (∀ X : World, X.heap[wr.heap.size]? = WX.heap[wr.heap.size]? → _) := HR
            have HE := Lib.hid (HA'.out.hold (t := xt))
            have HEm := Lib.hid (HA'.out.may (e := xe) (t := xt))
            obtain ⟨ri, rb, hrr⟩ : ∃ ri rb, Lea.hold C a xt = (ri, rb) := ⟨_, _, rfl⟩
            have hrr1 := Lib.hid (HE.out.trans hrr)
            replace hrr := Lib.hid hrr
            obtain ⟨mb, hmb⟩ : ∃ mb, Lea.may C a xe xt = mb := ⟨_, rfl⟩
            have hmb1 := Lib.hid (HEm.out.trans hmb)
            replace hmb := Lib.hid hmb
            clear HE HEm
            go_wp2_with fail
            have hlx := H8.out.a.bel.size
            have hzy : wr.heap.size < _ := lt_of_block ((hx3.out).trans hxb.out)
            refine (holder_any H8.out.a.bk hwa.out).mono ?_
            rintro x w5 ⟨rfl, hb5⟩
            rw [hrr1.out]
            have hx5 := (hb5.block wr.heap.size hzy).trans (hx3.out)
            obtain ⟨d0, d1, d2, d3⟩ := HRY.out w5 hx5
            replace hx5 := Lib.hid hx5
            have H5 := Lib.hid (H8.out.below hb5)
            have hz5 := Nat.lt_of_lt_of_le hzy hb5.size
            clear H8 hb5
            go_wp2_with fail
            refine (holder_any H5.out.b.bk hwa.out).mono ?_
            rintro x w6 ⟨rfl, hb6⟩
            rw [hrr.out]
            obtain ⟨d0, d1, d2, d3⟩ := HRY.out w6 ((hb6.block wr.heap.size hz5).trans hx5.out)
            have H6 := Lib.hid (H5.out.below hb6)
            clear H5 hb6 hx5 hrr hrr1 HRY
            have cP := may_grown H6.out.a.bk hwa.out hmb1.out
            have cQ := may_grown H6.out.b.bk hwa.out hmb.out
            replace cP := Lib.hid cP
            replace cQ := Lib.hid cQ
            have D2 := fun d os => cell_regrown d2 d os
            have D3 := fun d os => cell_regrown d3 d os
            have t1 : (ri != ri) = false := by simp
            have t2 : (rb != rb) = false := by simp
            have t3 : (mb != mb) = false := by simp
            go_wp2_with fail
            refine wp_region_quiet_below (by kernel_rfl) (by kernel_rfl) ?_
            repeat (go_big_quiet_step (first | with_reducible exact cP.out _ _ | with_reducible exact cQ.out _ _))
            refine wpQuiet_nil ?_
            intro _ hw'
            obtain ⟨⟨dq, osq⟩, hw''⟩ := hw'
            subst hw''
            have hbq := below_regrown w6 dq osq
            generalize grow (redrawn w6 dq) osq = w7 at *
            have H7 := Lib.hid (H6.out.below hbq)
            clear H6 D2 D3 cP cQ
            go_wp2_with fail
            go_roundw
            case rel => exact ⟨i + 1, n + 1, j, B', C, by omega, by go_num, by omega, by omega, HA', H7⟩
            case measure => simp [intOf]; omega
        · -- kind 2
          as_aux_lemma =>
            obtain ⟨B', r1, hB'⟩ : ∃ B' r, Lea.grant B c xe xt = (B', r) := ⟨_, _, rfl⟩
            have HA' : Hid (Lea.Alike a B' C) := Lib.hid (by have := HA.out.grant_off (s := c) (e := xe) (t := xt) HQ.out; rw [hB'] at this; exact this)
            replace hB' := Lib.hid hB'
            go_wp2_with (first | (rw [← HX.out]))
            refine (grant_any H4.out.a.bk (by omega) he.out ht.out).mono ?_
            rintro x w3 ⟨rfl, hI, hF⟩
            rw [hB'.out] at hI ⊢
            have hx3 := hF.block wr.heap.size hsz HM.out.1
            obtain ⟨d0, d1, d2, d3⟩ := HR.out w3 hx3
            replace hx3 := Lib.hid hx3
            have H8 := Lib.hid (H4.out.put hI hF)
            clear H4 hI hF
            have HRY : Hid (∀ X : World, X.heap[wr.heap.size]? = WX.heap[wr.heap.size]? → _) := HR
            have HE := Lib.hid (HA'.out.hold (t := xt))
            have HEm := Lib.hid (HA'.out.may (e := xe) (t := xt))
            obtain ⟨ri, rb, hrr⟩ : ∃ ri rb, Lea.hold C a xt = (ri, rb) := ⟨_, _, rfl⟩
            have hrr1 := Lib.hid (HE.out.trans hrr)
            replace hrr := Lib.hid hrr
            obtain ⟨mb, hmb⟩ : ∃ mb, Lea.may C a xe xt = mb := ⟨_, rfl⟩
            have hmb1 := Lib.hid (HEm.out.trans hmb)
            replace hmb := Lib.hid hmb
            clear HE HEm
            go_wp2_with fail
            have hlx := H8.out.a.bel.size
            have hzy : wr.heap.size < _ := lt_of_block ((hx3.out).trans hxb.out)
            refine (holder_any H8.out.a.bk hwa.out).mono ?_
            rintro x w5 ⟨rfl, hb5⟩
            rw [hrr1.out]
            have hx5 := (hb5.block wr.heap.size hzy).trans (hx3.out)
            obtain ⟨d0, d1, d2, d3⟩ := HRY.out w5 hx5
            replace hx5 := Lib.hid hx5
            have H5 := Lib.hid (H8.out.below hb5)
            have hz5 := Nat.lt_of_lt_of_le hzy hb5.size
            clear H8 hb5
            go_wp2_with fail
            refine (holder_any H5.out.b.bk hwa.out).mono ?_
            rintro x w6 ⟨rfl, hb6⟩
            rw [hrr.out]
            obtain ⟨d0, d1, d2, d3⟩ := HRY.out w6 ((hb6.block wr.heap.size hz5).trans hx5.out)
            have H6 := Lib.hid (H5.out.below hb6)
            clear H5 hb6 hx5 hrr hrr1 HRY
            have cP := may_grown H6.out.a.bk hwa.out hmb1.out
            have cQ := may_grown H6.out.b.bk hwa.out hmb.out
            replace cP := Lib.hid cP
            replace cQ := Lib.hid cQ
            have D2 := fun d os => cell_regrown d2 d os
            have D3 := fun d os => cell_regrown d3 d os
            have t1 : (ri != ri) = false := by simp
            have t2 : (rb != rb) = false := by simp
            have t3 : (mb != mb) = false := by simp
            go_wp2_with fail
            refine wp_region_quiet_below (by kernel_rfl) (by kernel_rfl) ?_
            repeat (go_big_quiet_step (first | with_reducible exact cP.out _ _ | with_reducible exact cQ.out _ _))
            refine wpQuiet_nil ?_
            intro _ hw'
            obtain ⟨⟨dq, osq⟩, hw''⟩ := hw'
            subst hw''
            have hbq := below_regrown w6 dq osq
            generalize grow (redrawn w6 dq) osq = w7 at *
            have H7 := Lib.hid (H6.out.below hbq)
            clear H6 D2 D3 cP cQ
            go_wp2_with fail
            go_roundw
            case rel => exact ⟨i + 1, n + 1, j, B', C, by omega, by go_num, by omega, by omega, HA', H7⟩
            case measure => simp [intOf]; omega
        · -- kind 3
          as_aux_lemma =>
            obtain ⟨B', hB'⟩ : ∃ B', Lea.release B c xe = B' := ⟨_, rfl⟩
            have HA' : Hid (Lea.Alike a B' C) := Lib.hid (by have := HA.out.release_off (s := c) (e := xe) HQ.out; rw [hB'] at this; exact this)
            replace hB' := Lib.hid hB'
            go_wp2_with (first | (rw [← HX.out]))
            refine (release_any H4.out.a.bk (by omega) hs.out).mono ?_
            rintro x w3 ⟨rfl, hI, hF⟩
            rw [hB'.out] at hI
            have hx3 := hF.block wr.heap.size hsz HM.out.1
            obtain ⟨d0, d1, d2, d3⟩ := HR.out w3 hx3
            replace hx3 := Lib.hid hx3
            have H8 := Lib.hid (H4.out.put hI hF)
            clear H4 hI hF
            have HRY : Hid (∀ X : World, X.heap[wr.heap.size]? = WX.heap[wr.heap.size]? → _) := HR
            have HE := Lib.hid (HA'.out.hold (t := xt))
            have HEm := Lib.hid (HA'.out.may (e := xe) (t := xt))
            obtain ⟨ri, rb, hrr⟩ : ∃ ri rb, Lea.hold C a xt = (ri, rb) := ⟨_, _, rfl⟩
            have hrr1 := Lib.hid (HE.out.trans hrr)
            replace hrr := Lib.hid hrr
            obtain ⟨mb, hmb⟩ : ∃ mb, Lea.may C a xe xt = mb := ⟨_, rfl⟩
            have hmb1 := Lib.hid (HEm.out.trans hmb)
            replace hmb := Lib.hid hmb
            clear HE HEm
            go_wp2_with fail
            have hlx := H8.out.a.bel.size
            have hzy : wr.heap.size < _ := lt_of_block ((hx3.out).trans hxb.out)
            refine (holder_any H8.out.a.bk hwa.out).mono ?_
            rintro x w5 ⟨rfl, hb5⟩
            rw [hrr1.out]
            have hx5 := (hb5.block wr.heap.size hzy).trans (hx3.out)
            obtain ⟨d0, d1, d2, d3⟩ := HRY.out w5 hx5
            replace hx5 := Lib.hid hx5
            have H5 := Lib.hid (H8.out.below hb5)
            have hz5 := Nat.lt_of_lt_of_le hzy hb5.size
            clear H8 hb5
            go_wp2_with fail
            refine (holder_any H5.out.b.bk hwa.out).mono ?_
            rintro x w6 ⟨rfl, hb6⟩
            rw [hrr.out]
            obtain ⟨d0, d1, d2, d3⟩ := HRY.out w6 ((hb6.block wr.heap.size hz5).trans hx5.out)
            have H6 := Lib.hid (H5.out.below hb6)
            clear H5 hb6 hx5 hrr hrr1 HRY
            have cP := may_grown H6.out.a.bk hwa.out hmb1.out
            have cQ := may_grown H6.out.b.bk hwa.out hmb.out
            replace cP := Lib.hid cP
            replace cQ := Lib.hid cQ
            have D2 := fun d os => cell_regrown d2 d os
            have D3 := fun d os => cell_regrown d3 d os
            have t1 : (ri != ri) = false := by simp
            have t2 : (rb != rb) = false := by simp
            have t3 : (mb != mb) = false := by simp
            go_wp2_with fail
            refine wp_region_quiet_below (by kernel_rfl) (by kernel_rfl) ?_
            repeat (go_big_quiet_step (first | with_reducible exact cP.out _ _ | with_reducible exact cQ.out _ _))
            refine wpQuiet_nil ?_
            intro _ hw'
            obtain ⟨⟨dq, osq⟩, hw''⟩ := hw'
            subst hw''
            have hbq := below_regrown w6 dq osq
            generalize grow (redrawn w6 dq) osq = w7 at *
            have H7 := Lib.hid (H6.out.below hbq)
            clear H6 D2 D3 cP cQ
            go_wp2_with fail
            go_roundw
            case rel => exact ⟨i + 1, n + 1, j, B', C, by omega, by go_num, by omega, by omega, HA', H7⟩
            case measure => simp [intOf]; omega
      have e1 : (xs != a) = true := by simpa using hsa
      have e2 : (xs != c) = true := by simpa using hsc
      go_wp2_with (first | (rw [← HX.out]))
      go_roundw
      case rel => exact ⟨i + 1, n, j, B, C, by omega, by go_num, by omega, by omega, HA, H4⟩
      case measure => simp [intOf]; omega
    · obtain rfl : i = l.length := by omega
      go_wp2_with fail
      refine (lives_any _).mono ?_
      rintro x w5 ⟨rfl, hb5⟩
      have hbl := H3.out.a.bel
      go_wp2_with fail
      go_ret
      exact ⟨rfl, hbl.trans (hb5.mono hbl.size)⟩
end Go.Proofs.Ytopdjmjlnflhfaa.leasesApartW
