/-
  The walk of the law ClocksSkew.
-/
import Derived.Test.YtljlighgjjiagaaKList
import Derived.Test.YtljlighgjjiagaaKSum
import Derived.Test.YtljlighgjjiagaaKBytes
import Derived.Test.YtljlighgjjiagaaRows
import Derived.Deep.LoopGhost
import Derived.Deep.QuietTactic
import Derived.BigQuiet
namespace Go.Proofs.Ytljlighgjjiagaa.clocksSkewW
open Go.RowKit
theorem new_skew (n : Nat) (h1 : 2 ≤ n) : Clo.skew (Clo.new n).l = 0 := by
  have hl : (Clo.new n).l.length = n := by simp [Clo.new]
  have z := fun i => show (Clo.new n).l.getD i 0 = 0 by simp [Clo.new, List.getD, List.getElem?_replicate]; split <;> rfl
  refine Clo.skew_is (a := 0) (b := 0) (by omega) (by omega) (by rw [z]; rfl) fun i k _ _ => ?_
  rw [z, z]; decide
set_option maxRecDepth 100000 in
set_option maxHeartbeats 8000000 in
theorem walk_near (q : Nat) (hq : q < 256) (A : Option Addr) (cv : Nat) (l : List Nat) (w : World) (hl : l.length ≤ 1000) (hi : Bys w (.slice A l.length cv) l) :
    Calls Try.prog 6 #[.int .u8 (q : Int), .slice A l.length cv] w fun e w' => e = .returned (.bool true) ∧ Below w.heap.size w w' := by
  obtain ⟨n, hn⟩ : ∃ n, 2 + q % 6 = n := ⟨_, rfl⟩
  have h1 : 2 ≤ n := by omega
  have h2 : n ≤ 7 := by omega
  have hqr : (q : Int).tmod 6 = (q : Int) % 6 := Int.tmod_eq_emod_of_nonneg (by omega)
  have hqn : IntKind.i64.wrap (2 + (q : Int) % 6) = (n : Int) := by rw [IntWalk.i64_in _ (by omega)]; omega
  have hn2 : (2 : Int) ≤ (n : Int) := by omega
  obtain ⟨A0, c0, e0, hlc, hcm, _, hcell⟩ := hi
  injection e0 with e0 _ e1
  subst e0 e1
  unfold maxLen at hcm
  have q1 : decide ((1000 : Int) < (l.length : Int)) = false := decide_eq_false (by omega)
  have HC := Lib.hid hcell
  have HNew := Lib.hid (l_new n h1 h2 w)
  have HG := Lib.hid (show (Clo.new n).l.length = n by simp [Clo.new])
  have HS0 := Lib.hid (show (Clo.new n).l.sum = 0 by simp [Clo.new])
  have HK0 := Lib.hid (new_skew n h1)
  have HW0 := Lib.hid (show (Clo.new n).w = 0 from rfl)
  clear hcell hn
  go_enter Try.func6, Try.ntmps6
  go_wp2_with fail
  refine HNew.out.mono ?_
  rintro e w1 ⟨c, rfl, H1⟩
  clear HNew
  go_wp2_with fail
  refine (l_skew H1 HK0).mono ?_
  rintro e w2 ⟨rfl, H2⟩
  go_wp2_with fail
  refine (l_worst H2 HW0).mono ?_
  rintro e w3 ⟨rfl, rfl⟩
  go_wp2_with fail
  go_loopg [8, 9] l.length (fun kx dv iv wr => ∃ (i : Nat) (C : Clo.Cs) (W : Int), i ≤ l.length ∧ dv = .int .i64 W ∧ iv = .int .i64 (i : Int) ∧ l.length - i ≤ kx ∧ Hid (C.l.length = n) ∧ Hid (C.l.sum = (i : Int)) ∧ Hid (C.w = W) ∧ Hid (OnL w c C [] wr))
  case atStart => exact ⟨0, _, 0, Nat.zero_le _, rfl, rfl, by omega, HG, HS0, HW0, H2⟩
  case round =>
    obtain ⟨i, C, W, hil, rfl, rfl, hik, HN, HD, HWq, HO⟩ := hrel
    clear H2 H1 HG HS0 HK0 HW0
    by_cases hlt : i < l.length
    · obtain ⟨b, off, rfl, hbw, hc⟩ := HC.out (by omega)
      obtain ⟨ci, hx⟩ := hc i hlt
      obtain ⟨x, hxe⟩ : ∃ x, l.getD i 0 = x := ⟨_, rfl⟩
      rw [hxe] at ci hx
      clear hc hxe
      have z0 := (HO.out.1.2.2.cell (p := ⟨b, off + i, none⟩) hbw).trans ci
      clear ci
      have hg := HO.out.1.1.good
      obtain ⟨j, hjx⟩ : ∃ j, x % n = j := ⟨_, rfl⟩
      have hjn : j < n := by rw [← hjx]; exact Nat.mod_lt _ (by omega)
      have hm1 : (x : Int).tmod (n : Int) = (j : Int) := by rw [Int.tmod_eq_emod_of_nonneg (by omega)]; omega
      have hm2 : (x : Int) % (n : Int) = (j : Int) := by omega
      clear hjx
      rcases Clo.one_tick hg (j : Int) (by rw [HD.out]; omega) with ⟨j', hjj, hj, ht, hsum, hget⟩ | ⟨hs, ht⟩
      · obtain rfl : j = j' := by omega
        obtain ⟨C', hC'⟩ : ∃ C', Clo.tick C j = C' := ⟨_, rfl⟩
        have hcl : C.l.set j (C.l.getD j 0 + 1) = C'.l := by rw [← hC']; rfl
        have hcw : C'.w = max C.w (Clo.skew C'.l) := by rw [← hC']; rfl
        rw [hC'] at ht hsum
        have HT := Lib.hid ht
        obtain ⟨K, hK⟩ : ∃ q, Clo.skew C'.l = q := ⟨_, rfl⟩
        rw [hK, HWq.out] at hcw
        have HW' := Lib.hid hcw
        have HD' : Hid (C'.l.sum = ((i + 1 : Nat) : Int)) := Lib.hid (by rw [hsum, HD.out]; omega)
        have HK := Lib.hid hK
        have HN' : Hid (C'.l.length = n) := Lib.hid (by rw [← hcl, List.length_set]; exact HN.out)
        have HGd : Hid (Clo.Good C') := Lib.hid (by have := (hg.ticked (j : Int)).1; rw [ht] at this; exact this)
        have hKr := HGd.out.skew
        rw [hK] at hKr
        clear ht hsum hget hcl hcw hK hC' HD hjj hj hg
        go_wp2_with fail
        refine (l_tick (j : Int) HO HT).mono ?_
        rintro e w4 ⟨rfl, H4⟩
        clear HO z0
        go_wp2_with fail
        refine (l_all n H4 HN').mono ?_
        rintro e w5 ⟨A5, c5, rfl, H5⟩
        clear H4
        go_wp2_with fail
        refine (l_skew H5 HK).mono ?_
        rintro e w6 ⟨rfl, H6⟩
        clear H5
        go_wp2_with fail
        go_loopg [13, 14] n (fun kx bv av wx => ∃ (a : Nat) (t : Bool), a ≤ n ∧ bv = .bool t ∧ av = .int .i64 (a : Int) ∧ n - a ≤ kx ∧ Hid (∀ a' b', a' < a → b' < n → K = C'.l.getD a' 0 - C'.l.getD b' 0 → t = true) ∧ Hid (OnL w c C' [(.slice A5 n c5, C'.l)] wx))
        case atStart => exact ⟨0, false, Nat.zero_le _, rfl, rfl, by omega, Lib.hid fun a' b' ha => by omega, H6⟩
        case round =>
          obtain ⟨a, t, han, rfl, rfl, hak, HX, H7⟩ := hrel
          clear H6
          by_cases hlt2 : a < n
          · go_wp2_with fail
            go_loopg [13, 15] n (fun kx bv cv' wx => ∃ (k : Nat) (t' : Bool), k ≤ n ∧ bv = .bool t' ∧ cv' = .int .i64 (k : Int) ∧ n - k ≤ kx ∧ Hid (t = true → t' = true) ∧ Hid (∀ b', b' < k → K = C'.l.getD a 0 - C'.l.getD b' 0 → t' = true) ∧ Hid (OnL w c C' [(.slice A5 n c5, C'.l)] wx))
            case atStart => exact ⟨0, t, Nat.zero_le _, rfl, rfl, by omega, Lib.hid fun h => h, Lib.hid fun b' hb => by omega, H7⟩
            case round =>
              obtain ⟨k, t', hkn, rfl, rfl, hkk, HT1, HT2, H8⟩ := hrel
              clear H7
              by_cases hlt3 : k < n
              · obtain ⟨b5, o5, rfl, hrow⟩ := l_row H8.out (List.mem_cons_self ..) (by rw [HN'.out]; omega)
                have z5 := hrow a (by rw [HN'.out]; exact hlt2)
                have z6 := hrow k (by rw [HN'.out]; exact hlt3)
                clear hrow
                have hyz := Clo.skew_all (l := C'.l) (i := a) (k := k) (by rw [HN'.out]; exact hlt2) (by rw [HN'.out]; exact hlt3)
                rw [HK.out] at hyz
                have hy := HGd.out.at_ (i := a) (by rw [HN'.out]; exact hlt2)
                have hz := HGd.out.at_ (i := k) (by rw [HN'.out]; exact hlt3)
                obtain ⟨y, hyq⟩ : ∃ y, C'.l.getD a 0 = y := ⟨_, rfl⟩
                obtain ⟨z, hzq⟩ : ∃ z, C'.l.getD k 0 = z := ⟨_, rfl⟩
                rw [hyq] at z5 hy hyz
                rw [hzq] at z6 hz hyz
                have HY := Lib.hid hyq
                have HZ := Lib.hid hzq
                clear hyq hzq
                have hw : IntKind.i64.wrap (y - z) = y - z := IntWalk.i64_in _ (by omega)
                have t1 : decide (K < y - z) = false := decide_eq_false (by omega)
                cases t' with
                | true =>
                  go_wp2_with fail
                  go_quiet (fail)
                  go_wp2_with fail
                  go_quiet (fail)
                  go_wp2_with fail
                  go_roundg (n - (k + 1))
                  case measure => omega
                  case rel => exact ⟨k + 1, true, by omega, rfl, by go_num, by omega, Lib.hid fun _ => rfl, Lib.hid fun _ _ _ => rfl, Lib.hid (H8.out.below ⟨rfl, rfl, rfl, Nat.le_refl _, fun _ _ => rfl⟩)⟩
                | false =>
                  obtain ⟨tb, htb⟩ : ∃ tb, (y - z == K) = tb := ⟨_, rfl⟩
                  have HTB := Lib.hid htb
                  go_wp2_with fail
                  go_quiet (fail)
                  go_wp2_with fail
                  go_quiet (fail)
                  go_wp2_with fail
                  go_roundg (n - (k + 1))
                  case measure => omega
                  case rel =>
                    refine ⟨k + 1, tb, by omega, rfl, by go_num, by omega, Lib.hid fun h => absurd (HT1.out h) (by decide), Lib.hid fun b' hb he => ?_, Lib.hid (H8.out.below ⟨rfl, rfl, rfl, Nat.le_refl _, fun _ _ => rfl⟩)⟩
                    by_cases hbk : b' < k
                    · exact absurd (HT2.out b' hbk he) (by decide)
                    · obtain rfl : b' = k := by omega
                      rw [HY.out, HZ.out] at he
                      rw [← HTB.out, he]; exact beq_self_eq_true _
              · obtain rfl : k = n := by omega
                go_wp2_with fail
                go_roundg (k - (a + 1))
                case measure => omega
                case rel =>
                  refine ⟨a + 1, t', by omega, rfl, by go_num, by omega, Lib.hid fun a' b' ha hb he => ?_, H8⟩
                  by_cases haa : a' < a
                  · exact HT1.out (HX.out a' b' haa hb he)
                  · obtain rfl : a' = a := by omega
                    exact HT2.out b' hb he
          · obtain rfl : a = n := by omega
            obtain rfl : t = true := by
              obtain ⟨a', b', ha, hb, he⟩ := Clo.skew_two (l := C'.l) (by rw [HN'.out]; omega)
              rw [HN'.out] at ha hb
              rw [HK.out] at he
              exact HX.out a' b' ha hb he
            go_wp2_with fail
            refine (l_worst H7 HW').mono ?_
            rintro e w8 ⟨rfl, rfl⟩
            have H8 : Hid (OnL w c C' [] _) := Lib.hid ⟨H7.out.1, fun p hp => by cases hp⟩
            go_wp2_with fail
            go_roundg (l.length - (i + 1))
            case measure => omega
            case rel => exact ⟨i + 1, C', _, by omega, rfl, by go_num, by omega, HN', HD', HW', H8⟩
      · rw [HN.out] at hs
        omega
    · obtain rfl : i = l.length := by omega
      go_wp2_with fail
      refine (works_any _).mono ?_
      rintro e w' ⟨rfl, hb⟩
      go_wp2_with fail
      go_ret
      exact ⟨rfl, HO.out.1.2.2.trans (hb.mono HO.out.1.2.2.size)⟩
set_option maxRecDepth 100000 in
theorem walk (q : Nat) (A : Option Addr) (cv : Nat) (l : List Nat) (w : World) (hq : q < 256) (hi : Bys w (.slice A l.length cv) l) :
    Calls Try.prog 6 #[.int .u8 (q : Int), .slice A l.length cv] w fun e w' => e = .returned (.bool true) ∧ Below w.heap.size w w' := by
  by_cases hl : l.length ≤ 1000
  · exact walk_near q hq A cv l w hl hi
  · have q1 : decide ((1000 : Int) < (l.length : Int)) = true := decide_eq_true (by omega)
    clear hi
    go_enter Try.func6, Try.ntmps6
    go_wp2_with fail
    go_ret
    exact ⟨rfl, Below.refl _ _⟩
end Go.Proofs.Ytljlighgjjiagaa.clocksSkewW
