/-
  The walk of the law EpochsLeast.
-/
import Derived.Test.YtmdchepmojlbbaaRows
import Derived.Test.YtmdchepmojlbbaaERef
import Derived.Test.YtmdchepmojlbbaaEWorks
namespace Go.Proofs.Ytmdchepmojlbbaa.epochsLeastW
open Go.RowKit
/-- How often a site was seen among the first few behind. -/
def tick (s n t : Int) (j : Nat) : Int := if ((j : Int) - s - 1) % n < t then 1 else 0
theorem tick_zero {s n : Int} (hn : 2 ≤ n) (j : Nat) : tick s n 0 j = 0 := if_neg (by have := Int.emod_nonneg ((j : Int) - s - 1) (show n ≠ 0 by omega); omega)
theorem tick_at {s n t : Int} {k : Nat} (h : ((k : Int) - s - 1) % n = t) : tick s n t k = 0 ∧ tick s n (t + 1) k = 1 := ⟨if_neg (by omega), if_pos (by omega)⟩
theorem tick_other {s n t : Int} {j k : Nat} (h1 : 2 ≤ n) (h2 : n ≤ 7) (hj : (j : Int) < n) (hk : (k : Int) < n) (h : ((k : Int) - s - 1) % n = t) (hne : j ≠ k) : tick s n (t + 1) j = tick s n t j := by
  have : ((j : Int) - s - 1) % n ≠ t := by
    obtain rfl | rfl | rfl | rfl | rfl | rfl : n = 2 ∨ n = 3 ∨ n = 4 ∨ n = 5 ∨ n = 6 ∨ n = 7 := by omega
    all_goals omega
  unfold tick
  by_cases h3 : ((j : Int) - s - 1) % n < t
  · rw [if_pos h3, if_pos (by omega)]
  · rw [if_neg h3, if_neg (by omega)]
theorem turn {a s n x : Int} (h1 : 2 ≤ n) (h2 : n ≤ 7) (h : (a - 1) % n = s) (hx1 : a + 1 ≤ x) (hx2 : x ≤ a + n) : ((x - 1) % n - s - 1) % n = x - a - 1 ∧ ((x - 1) % n = s ↔ x = a + n) := by
  obtain rfl | rfl | rfl | rfl | rfl | rfl : n = 2 ∨ n = 3 ∨ n = 4 ∨ n = 5 ∨ n = 6 ∨ n = 7 := by omega
  all_goals omega
/-- What the law keeps of the sites that it has seen. -/
def Seen (wr : World) (B : Nat) (s n t : Int) : Prop := ∀ j : Nat, (j : Int) < n → wr.cell? ⟨B, j, none⟩ = some (.int .i64 (tick s n t j)) ∧ wr.frozen? ⟨B, j, none⟩ = false
theorem Seen.new {W : World} {s n : Int} (h1 : 2 ≤ n) (h2 : n ≤ 7) : Seen (W.alloc (.cells #[.int .i64 0, .int .i64 0, .int .i64 0, .int .i64 0, .int .i64 0, .int .i64 0, .int .i64 0, .int .i64 0] 34)) W.heap.size s n 0 := by
  intro j hj
  rw [tick_zero h1]
  have h := World.alloc_heap_new W (.cells #[.int .i64 0, .int .i64 0, .int .i64 0, .int .i64 0, .int .i64 0, .int .i64 0, .int .i64 0, .int .i64 0] 34)
  constructor
  · simp only [World.cell?, h]
    rcases (show j = 0 ∨ j = 1 ∨ j = 2 ∨ j = 3 ∨ j = 4 ∨ j = 5 ∨ j = 6 by omega) with rfl | rfl | rfl | rfl | rfl | rfl | rfl <;> rfl
  · simp only [World.frozen?, h]; simp
theorem Seen.next {wr : World} {B : Nat} {s n t : Int} {k : Nat} (h : Seen wr B s n t) (h1 : 2 ≤ n) (h2 : n ≤ 7) (hk : (k : Int) < n) (ht : ((k : Int) - s - 1) % n = t) : Seen (wr.setCell ⟨B, k, none⟩ (.int .i64 1)) B s n (t + 1) := by
  intro j hj
  rw [World.frozen?_setCell]
  refine ⟨?_, (h j hj).2⟩
  by_cases hjk : j = k
  · subst hjk
    rw [(tick_at ht).2]
    exact World.cell?_setCell_same' _ _ _ (by rw [(h j hj).1]; rfl)
  · rw [World.cell?_setCell_other _ _ _ _ (fun e => by injection e with _ e; omega), (h j hj).1, tick_other h1 h2 hj hk ht hjk]
set_option maxRecDepth 100000 in
set_option maxHeartbeats 2000000 in
theorem walk_ok (e s n : Int) (W : World) (h : 2 ≤ n ∧ n ≤ 7 ∧ 0 ≤ s ∧ s < n ∧ 0 ≤ e ∧ e ≤ 1048576) (hf : e + 1 + Epo.far e s n ≤ 1048576) :
    Calls Try.prog 5 #[.int .i64 e, .int .i64 s, .int .i64 n] W fun x W' => x = .returned (.bool true) ∧ Below W.heap.size W W' := by
  have H1 := Lib.hid (fun W => next_any e s n W)
  rw [next_ok h hf] at H1
  obtain ⟨h1, h2, h3, h4, h5, h6⟩ := h
  have ⟨f1, f2, f3⟩ := Epo.far_at (e := e) h1 h2 h3 h4
  have HW := Lib.hid (fun x => whose_at (x := x) h1 h2 h3 h4 h5)
  generalize Epo.far e s n = f at *
  have ha : Epo.whose (e + 1 + f) n = s := (HW.out _ (by omega) (by omega)).2 ⟨rfl, hf⟩
  have H2 := Lib.hid (fun W => of_any (e + 1 + f) n W)
  rw [ha] at H2
  generalize hx : e + 1 + f = a at *
  go_enter Try.func5, Try.ntmps5
  go_wp2_with fail
  refine (H1.out _).mono ?_
  rintro x w1 ⟨rfl, rfl⟩
  go_wp2_with fail
  refine (H2.out _).mono ?_
  rintro x w1 ⟨rfl, rfl⟩
  go_wp2_with fail
  go_loopw [9] (fun i wr => ∃ x : Int, e + 1 ≤ x ∧ x ≤ a ∧ i = .int .i64 x ∧ W = wr) (fun i _ => (a - intOf i).toNat)
  case atStart => exact ⟨_, Int.le_refl _, by omega, rfl, rfl⟩
  case round =>
    obtain ⟨x, hx1, hx2, rfl, rfl⟩ := hrel
    by_cases hlt : x < a
    · have HO := Lib.hid (of_any x n)
      have hw : (Epo.whose x n == s) = false := by
        simp only [beq_eq_false_iff_ne, ne_eq]
        intro hh
        have := (HW.out x hx1 (by omega)).1 hh
        omega
      generalize Epo.whose x n = q at *
      go_wp2_with fail
      refine (HO.out _).mono ?_
      rintro y w' ⟨rfl, rfl⟩
      go_wp2_with fail
      go_roundw
      case rel => exact ⟨x + 1, by omega, by omega, rfl, trivial⟩
      case measure => simp [intOf]; omega
    · obtain rfl : x = a := by omega
      have HR := Lib.hid (show (x - 1) % n = s by rw [← f3, ← hx]; congr 1; omega)
      have hx0 : 1 ≤ x := by omega
      clear hx f1 f2 f3 ha HW H1 H2 hx1 hx2 hlt
      go_wp2_with fail
      go_loopw [11] (fun i wr => ∃ y : Int, x + 1 ≤ y ∧ y ≤ x + n + 1 ∧ y ≤ 1048577 ∧ i = .int .i64 y ∧ Hid (Seen wr W.heap.size s n (y - x - 1)) ∧ Below W.heap.size W wr) (fun i _ => (x + n + 1 - intOf i).toNat)
      case atStart => exact ⟨x + 1, Int.le_refl _, by omega, by omega, rfl, Lib.hid (by rw [show x + 1 - x - 1 = 0 by omega]; exact Seen.new h1 h2), (Below.refl _ _).alloc (Nat.le_refl _) _⟩
      case round =>
        obtain ⟨y, hy1, hy2, hy3, rfl, HS, hb⟩ := hrel
        by_cases hlt : y ≤ x + n
        · by_cases hlm : y ≤ 1048576
          · have HO := Lib.hid (of_any y n)
            have hw : Epo.whose y n = (y - 1) % n := if_pos ⟨h1, h2, by omega, hlm⟩
            rw [hw] at HO
            have ⟨ht1, ht2⟩ := turn h1 h2 HR.out hy1 hlt
            obtain ⟨k, hk, hkn⟩ : ∃ k : Nat, (y - 1) % n = (k : Int) ∧ (k : Int) < n := ⟨((y - 1) % n).toNat, by have := Int.emod_nonneg (y - 1) (show n ≠ 0 by omega); omega, by have := Int.emod_lt_of_pos (y - 1) (show 0 < n by omega); have := Int.emod_nonneg (y - 1) (show n ≠ 0 by omega); omega⟩
            rw [hk] at ht1 ht2 HO
            have ⟨hc1, hc2⟩ := HS.out k hkn
            rw [(tick_at ht1).1] at hc1
            have HS2 := Lib.hid (HS.out.next h1 h2 hkn ht1)
            have HT := Lib.hid ht1
            clear hw hk ht1 HS
            by_cases hyn : y = x + n
            · obtain rfl : (k : Int) = s := ht2.2 hyn
              subst hyn
              clear ht2
              go_wp2_with fail
              refine (HO.out _).mono ?_
              rintro z w' ⟨rfl, rfl⟩
              go_wp2_with fail
              go_roundw
              case rel => exact ⟨x + n + 1, by omega, by omega, by omega, rfl, by rw [show x + n + 1 - x - 1 = x + n - x - 1 + 1 by omega]; exact HS2, hb.setCell (p := ⟨W.heap.size, k, none⟩) (Nat.le_refl _) _⟩
              case measure => simp [intOf]; omega
            · have hyb : (y == x + n) = false := by simp only [beq_eq_false_iff_ne, ne_eq]; exact hyn
              have hks : ((k : Int) == s) = false := by simp only [beq_eq_false_iff_ne, ne_eq]; intro h; exact hyn (ht2.1 h)
              clear ht2
              go_wp2_with fail
              refine (HO.out _).mono ?_
              rintro z w' ⟨rfl, rfl⟩
              go_wp2_with fail
              go_roundw
              case rel => exact ⟨y + 1, by omega, by omega, by omega, rfl, by rw [show y + 1 - x - 1 = y - x - 1 + 1 by omega]; exact HS2, hb.setCell (p := ⟨W.heap.size, k, none⟩) (Nat.le_refl _) _⟩
              case measure => simp [intOf]; omega
          · go_wp2_with fail
            refine (works_any _).mono ?_
            rintro x w7 ⟨rfl, hb7⟩
            go_wp2_with fail
            go_ret
            exact ⟨rfl, hb.trans (hb7.mono hb.size)⟩
        · go_wp2_with fail
          refine (works_any _).mono ?_
          rintro x w7 ⟨rfl, hb7⟩
          go_wp2_with fail
          go_ret
          exact ⟨rfl, hb.trans (hb7.mono hb.size)⟩
set_option maxRecDepth 100000 in
set_option maxHeartbeats 2000000 in
theorem walk (e s n : Int) (W : World) (_ : (Lit.int .i64 e).wf = true) (_ : (Lit.int .i64 s).wf = true) (_ : (Lit.int .i64 n).wf = true) :
    Calls Try.prog 5 #[.int .i64 e, .int .i64 s, .int .i64 n] W fun x W' => x = .returned (.bool true) ∧ Below W.heap.size W W' := by
  by_cases h : 2 ≤ n ∧ n ≤ 7 ∧ 0 ≤ s ∧ s < n ∧ 0 ≤ e ∧ e ≤ 1048576
  · by_cases hf : e + 1 + Epo.far e s n ≤ 1048576
    · exact walk_ok e s n W h hf
    · have H1 := Lib.hid (fun W => next_any e s n W)
      rw [next_long h hf] at H1
      obtain ⟨h1, h2, h3, h4, h5, h6⟩ := h
      have ⟨f1, f2, _⟩ := Epo.far_at (e := e) h1 h2 h3 h4
      have h7 : 1048576 - n < e := by omega
      clear f1 f2 hf
      go_enter Try.func5, Try.ntmps5
      go_wp2_with fail
      refine (H1.out _).mono ?_
      rintro x w1 ⟨rfl, rfl⟩
      go_wp2_with fail
      refine (works_any _).mono ?_
      rintro x w7 ⟨rfl, hb7⟩
      go_wp2_with fail
      go_ret
      exact ⟨rfl, hb7⟩
  · have H1 := Lib.hid (fun W => next_any e s n W)
    rw [next_arg h] at H1
    clear h
    go_enter Try.func5, Try.ntmps5
    go_wp2_with fail
    refine (H1.out _).mono ?_
    rintro x w1 ⟨rfl, rfl⟩
    go_wp2_with fail
    refine (works_any _).mono ?_
    rintro x w7 ⟨rfl, hb7⟩
    go_wp2_with fail
    go_ret
    exact ⟨rfl, hb7⟩
end Go.Proofs.Ytmdchepmojlbbaa.epochsLeastW
