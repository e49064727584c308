/-
  The walk of the law ClocksRound.
-/
import Derived.Test.YtljlighgjjiagaaKWorks
import Derived.Test.YtljlighgjjiagaaKRound
import Derived.Test.YtljlighgjjiagaaKBytes
import Derived.Test.YtljlighgjjiagaaRows
import Derived.Deep.LoopGhost
namespace Go.Proofs.Ytljlighgjjiagaa.clocksRoundW
open Go.RowKit
set_option maxRecDepth 100000 in
set_option maxHeartbeats 8000000 in
theorem walk_near (q : Nat) (hq : q < 256) (A : Option Addr) (cv : Nat) (l : List Nat) (w : World) (hl : l.length ≤ 100) (hi : Bys w (.slice A l.length cv) l) :
    Calls Try.prog 7 #[.int .u8 (q : Int), .slice A l.length cv] w fun e w' => e = .returned (.bool true) ∧ Below w.heap.size w w' := by
  obtain ⟨n, hn⟩ : ∃ n, 2 + q % 6 = n := ⟨_, rfl⟩
  have h1 : 2 ≤ n := by omega
  have h2 : n ≤ 7 := by omega
  have hqr : (q : Int).tmod 6 = (q : Int) % 6 := Int.tmod_eq_emod_of_nonneg (by omega)
  have hqn : IntKind.i64.wrap (2 + (q : Int) % 6) = (n : Int) := by rw [IntWalk.i64_in _ (by omega)]; omega
  have hn2 : (2 : Int) ≤ (n : Int) := by omega
  have hn7 : (n : Int) ≤ 7 := by omega
  obtain ⟨A0, c0, e0, hlc, hcm, _, hcell⟩ := hi
  injection e0 with e0 _ e1
  subst e0 e1
  unfold maxLen at hcm
  have q1 : decide ((100 : Int) < (l.length : Int)) = false := decide_eq_false (by omega)
  have HC := Lib.hid hcell
  have HNew := Lib.hid (on_new n h1 h2 w)
  have HR0 := Lib.hid (Clo.Rd.new h1 h2 (fun _ => 0))
  clear hcell hn
  go_enter Try.func7, Try.ntmps7
  go_wp2_with fail
  refine HNew.out.mono ?_
  rintro e w1 ⟨c, rfl, H1⟩
  clear HNew
  go_wp2_with fail
  go_loopg [8] l.length (fun kx iv wr => ∃ (i : Nat) (C : Clo.Cs), i ≤ l.length ∧ iv = .int .i64 (i : Int) ∧ l.length - i ≤ kx ∧ Hid (Clo.Rd n (fun _ => 0) i 0 C) ∧ Hid (On w c C wr))
  case atStart => exact ⟨0, _, Nat.zero_le _, rfl, by omega, HR0, H1⟩
  case round =>
    obtain ⟨i, C, hil, rfl, hik, HR, HO⟩ := hrel
    clear H1 HR0
    by_cases hlt : i < l.length
    · obtain ⟨b, off, rfl, hbw, hc⟩ := HC.out (by omega)
      obtain ⟨ci, hx⟩ := hc i hlt
      obtain ⟨x, hxe⟩ : ∃ x, l.getD i 0 = x := ⟨_, rfl⟩
      rw [hxe] at ci hx
      clear hc hxe
      have CL := Lib.hid (fun (X : World) (D : Clo.Cs) (h : On w c D X) => (h.2.2.cell (p := ⟨b, off + i, none⟩) hbw).trans ci)
      clear ci
      have hi100 : i ≤ 1000 := by omega
      go_wp2_with fail
      go_loopg [9] n (fun kx kv wx => ∃ (k : Nat) (D : Clo.Cs), k ≤ n ∧ kv = .int .i64 (k : Int) ∧ n - k ≤ kx ∧ Hid (Clo.Rd n (Clo.turn n x) i k D) ∧ Hid (On w c D wx))
      case atStart => exact ⟨0, C, Nat.zero_le _, rfl, by omega, HR.out.other _, HO⟩
      case round =>
        obtain ⟨k, D, hkn, rfl, hkk, HD, H2⟩ := hrel
        clear HO
        by_cases hlt2 : k < n
        · have z0 := CL.out _ _ H2.out
          obtain ⟨ht, hr⟩ := HD.out.step hlt2 hi100 (fun _ _ => Clo.turn_lt h1) (fun a b ha hb => Clo.turn_inj h1 h2 ha hb)
          have hsl := Clo.turn_lt (n := n) (x := x) (k := k) h1
          have hk1 := hr.skew
          obtain ⟨D', hD'⟩ : ∃ D', Clo.tick D (Clo.turn n x k) = D' := ⟨_, rfl⟩
          rw [hD'] at ht hr hk1
          obtain ⟨K, hK⟩ : ∃ K, Clo.skew D'.l = K := ⟨_, rfl⟩
          rw [hK] at hk1
          have t1 : decide (1 < K) = false := decide_eq_false (by omega)
          have HR' := Lib.hid hr
          obtain ⟨z, hz⟩ : ∃ z, (k + x) % n = z := ⟨_, rfl⟩
          have hzn : z < n := by rw [← hz]; exact Nat.mod_lt _ (by omega)
          have hm1 : ((k : Int) + (x : Int)).tmod (n : Int) = (z : Int) := by rw [Int.tmod_eq_emod_of_nonneg (by omega), ← hz]; simp
          have hm2 : ((k : Int) + (x : Int)) % (n : Int) = (z : Int) := by rw [← hz]; simp
          by_cases hx8 : 128 ≤ x
          · have hs : (n : Int) - 1 - (z : Int) = (Clo.turn n x k : Int) := by unfold Clo.turn; rw [if_pos hx8, hz]; omega
            have t2 : decide ((128 : Int) ≤ (x : Int)) = true := decide_eq_true (by omega)
            obtain ⟨s, hse⟩ : ∃ s, Clo.turn n x k = s := ⟨_, rfl⟩
            rw [hse] at hs ht hsl
            have hs1 : IntKind.i64.wrap ((n : Int) - 1) = (n : Int) - 1 := IntWalk.i64_in _ (by omega)
            have hs2 : IntKind.i64.wrap ((n : Int) - 1 - (z : Int)) = (s : Int) := by rw [IntWalk.i64_in _ (by omega)]; exact hs
            clear hr hD' hse hz hx8 HR HD
            go_wp2_with fail
            refine (on_tick (s : Int) H2 ht).mono ?_
            rintro e w3 ⟨rfl, H3⟩
            clear z0 H2
            go_wp2_with fail
            refine (on_skew H3 hK).mono ?_
            rintro e w4 ⟨rfl, H4⟩
            clear H3
            go_wp2_with fail
            go_roundg (n - (k + 1))
            case measure => omega
            case rel => exact ⟨k + 1, D', by omega, by go_num, by omega, HR', H4⟩
          · have hs : (z : Int) = (Clo.turn n x k : Int) := by unfold Clo.turn; rw [if_neg hx8, hz]
            have t2 : decide ((128 : Int) ≤ (x : Int)) = false := decide_eq_false (by omega)
            obtain ⟨s, hse⟩ : ∃ s, Clo.turn n x k = s := ⟨_, rfl⟩
            rw [hse] at hs ht hsl
            obtain rfl : z = s := by omega
            clear hr hD' hse hz hx8 HR HD hs
            go_wp2_with fail
            refine (on_tick (z : Int) H2 ht).mono ?_
            rintro e w3 ⟨rfl, H3⟩
            clear z0 H2
            go_wp2_with fail
            refine (on_skew H3 hK).mono ?_
            rintro e w4 ⟨rfl, H4⟩
            clear H3
            go_wp2_with fail
            go_roundg (n - (k + 1))
            case measure => omega
            case rel => exact ⟨k + 1, D', by omega, by go_num, by omega, HR', H4⟩
        · obtain rfl : k = n := by omega
          obtain ⟨hr, hK⟩ := HD.out.round h1 h2 (fun _ => 0)
          have HR' := Lib.hid hr
          clear HR hr
          go_wp2_with fail
          refine (on_skew H2 hK).mono ?_
          rintro e w4 ⟨rfl, H4⟩
          clear H2
          go_wp2_with fail
          go_roundg (l.length - (i + 1))
          case measure => omega
          case rel => exact ⟨i + 1, D, by omega, by go_num, by omega, HR', H4⟩
    · obtain rfl : i = l.length := by omega
      have hat : Clo.at_ C ((n - 1 : Nat) : Int) = ((l.length : Int), 0) := by
        rw [Clo.at_ok (by rw [HR.out.len]; omega), HR.out.behind (n - 1) (by omega) (fun k' hk => by omega)]
      have hn1 : (n : Int) - 1 = ((n - 1 : Nat) : Int) := by omega
      obtain ⟨m, hm⟩ : ∃ m, n - 1 = m := ⟨_, rfl⟩
      rw [hm] at hat hn1
      have hn1w : IntKind.i64.wrap ((n : Int) - 1) = (m : Int) := by rw [IntWalk.i64_in _ (by omega)]; exact hn1
      have HA := Lib.hid hat
      clear hat hm
      rcases Nat.eq_zero_or_pos l.length with h0 | h0
      · have hw : C.w = 0 := by rw [HR.out.w, if_pos ⟨h0, rfl⟩]
        have t3 : decide ((0 : Int) < (l.length : Int)) = false := decide_eq_false (by omega)
        obtain rfl := List.length_eq_zero_iff.1 h0
        clear HR h0
        go_wp2_with fail
        refine (on_at (m : Int) HO HA.out).mono ?_
        rintro e w3 ⟨rfl, H3⟩
        go_wp2_with fail
        refine (on_worst H3 hw).mono ?_
        rintro e w4 ⟨rfl, H4⟩
        go_wp2_with fail
        refine (works_any _).mono ?_
        rintro e w5 ⟨rfl, hb⟩
        go_wp2_with fail
        go_ret
        exact ⟨rfl, H4.out.2.2.trans (hb.mono H4.out.2.2.size)⟩
      · have hw : C.w = 1 := by rw [HR.out.w, if_neg (by omega)]
        have t3 : decide ((0 : Int) < (l.length : Int)) = true := decide_eq_true (by omega)
        clear HR
        go_wp2_with fail
        refine (on_at (m : Int) HO HA.out).mono ?_
        rintro e w3 ⟨rfl, H3⟩
        go_wp2_with fail
        refine (on_worst H3 hw).mono ?_
        rintro e w4 ⟨rfl, H4⟩
        go_wp2_with fail
        refine (works_any _).mono ?_
        rintro e w5 ⟨rfl, hb⟩
        go_wp2_with fail
        go_ret
        exact ⟨rfl, H4.out.2.2.trans (hb.mono H4.out.2.2.size)⟩
set_option maxRecDepth 100000 in
theorem walk (q : Nat) (A : Option Addr) (cv : Nat) (l : List Nat) (w : World) (hq : q < 256) (hi : Bys w (.slice A l.length cv) l) :
    Calls Try.prog 7 #[.int .u8 (q : Int), .slice A l.length cv] w fun e w' => e = .returned (.bool true) ∧ Below w.heap.size w w' := by
  by_cases hl : l.length ≤ 100
  · exact walk_near q hq A cv l w hl hi
  · have q1 : decide ((100 : Int) < (l.length : Int)) = true := decide_eq_true (by omega)
    clear hi
    go_enter Try.func7, Try.ntmps7
    go_wp2_with fail
    go_ret
    exact ⟨rfl, Below.refl _ _⟩
end Go.Proofs.Ytljlighgjjiagaa.clocksRoundW
