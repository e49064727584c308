/-
  Whose a message may be, what a kind has, the order and the answer of a message: what package mail asks of them.
-/
import Derived.Test.YtkdnhfeamibmdaaDoorMlMem
import Derived.Test.YtkdnhfeamibmdaaDoorOCheck
namespace Go.Proofs.YtkdnhfeamibmdaaDoor
open Go.RowKit
def majN (n : Int) : Int := if 2 ≤ n ∧ n ≤ 7 then n / 2 + 1 else 0
def soMany (n : Int) : Bool := decide (2 ≤ n) && decide (n ≤ 7)
theorem soMany_any (n : Int) (w : World) : Calls Tryd.prog 81 #[.int .i64 n] w fun e w' => e = .returned (.bool (soMany n)) ∧ w = w' := by
  have HI : Hid (soMany n = (decide (2 ≤ n) && decide (n ≤ 7))) := rfl
  generalize soMany n = r at *
  by_cases h1 : 2 ≤ n
  · have t1 : decide (2 ≤ n) = true := decide_eq_true h1
    by_cases h2 : n ≤ 7
    · have t2 : decide (n ≤ 7) = true := decide_eq_true h2
      go_enter Tryd.func81, Tryd.ntmps81
      go_wp2_with fail
      go_ret
      exact ⟨by rw [HI.out, t1, t2]; rfl, rfl⟩
    · have t2 : decide (n ≤ 7) = false := decide_eq_false h2
      go_enter Tryd.func81, Tryd.ntmps81
      go_wp2_with fail
      go_ret
      exact ⟨by rw [HI.out, t1, t2]; rfl, rfl⟩
  · have t1 : decide (2 ≤ n) = false := decide_eq_false h1
    go_enter Tryd.func81, Tryd.ntmps81
    go_wp2_with fail
    go_ret
    exact ⟨by rw [HI.out, t1]; rfl, rfl⟩
theorem majority_any (n : Int) (w : World) : Calls Tryd.prog 74 #[.int .i64 n] w fun e w' => e = .returned (.int .i64 (majN n)) ∧ w = w' := by
  have H := Lib.hid (fun X => soMany_any n X)
  by_cases h : 2 ≤ n ∧ n ≤ 7
  · have HM : Hid (majN n = n / 2 + 1) := if_pos h
    have hs : soMany n = true := by unfold soMany; simp [h.1, h.2]
    obtain ⟨h1, h2⟩ := h
    rw [hs] at H
    clear hs
    go_enter Tryd.func74, Tryd.ntmps74
    go_wp2_with fail
    refine (H.out _).mono ?_
    rintro e w' ⟨rfl, rfl⟩
    go_wp2_with fail
    go_ret
    exact ⟨by rw [HM.out]; first | rfl | (congr 1; congr 1; omega), rfl⟩
  · have HM : Hid (majN n = 0) := if_neg h
    have hs : soMany n = false := by unfold soMany; simp only [Bool.and_eq_false_iff, decide_eq_false_iff_not]; omega
    rw [hs] at H
    clear hs h
    go_enter Tryd.func74, Tryd.ntmps74
    go_wp2_with fail
    refine (H.out _).mono ?_
    rintro e w' ⟨rfl, rfl⟩
    go_wp2_with fail
    go_ret
    exact ⟨by rw [HM.out]; rfl, rfl⟩
theorem isSite_any (s n : Int) (w : World) : Calls Tryd.prog 46 #[.int .i64 s, .int .i64 n] w fun e w' => e = .returned (.bool (isSite s n)) ∧ w = w' := by
  have H := Lib.hid (fun X => majority_any n X)
  by_cases h : 2 ≤ n ∧ n ≤ 7
  · have hm : majN n = n / 2 + 1 := if_pos h
    rw [hm] at H
    obtain ⟨q, hq, hq2⟩ : ∃ q, n / 2 + 1 = q ∧ 0 < q := ⟨_, rfl, by omega⟩
    rw [hq] at H
    have HI : Hid (isSite s n = (decide (0 ≤ s) && decide (s < n))) := by show _ = _; unfold isSite; rw [Bool.eq_iff_iff]; simp; omega
    have t0 : decide (0 < q) = true := decide_eq_true hq2
    generalize isSite s n = r at *
    clear hq hm h
    by_cases h1 : 0 ≤ s
    · have t1 : decide (0 ≤ s) = true := decide_eq_true h1
      by_cases h2 : s < n
      · have t2 : decide (s < n) = true := decide_eq_true h2
        go_enter Tryd.func46, Tryd.ntmps46
        go_wp2_with fail
        refine (H.out _).mono ?_
        rintro e w' ⟨rfl, rfl⟩
        go_wp2_with fail
        go_ret
        exact ⟨by rw [HI.out, t1, t2]; rfl, rfl⟩
      · have t2 : decide (s < n) = false := decide_eq_false h2
        go_enter Tryd.func46, Tryd.ntmps46
        go_wp2_with fail
        refine (H.out _).mono ?_
        rintro e w' ⟨rfl, rfl⟩
        go_wp2_with fail
        go_ret
        exact ⟨by rw [HI.out, t1, t2]; rfl, rfl⟩
    · have t1 : decide (0 ≤ s) = false := decide_eq_false h1
      go_enter Tryd.func46, Tryd.ntmps46
      go_wp2_with fail
      refine (H.out _).mono ?_
      rintro e w' ⟨rfl, rfl⟩
      go_wp2_with fail
      go_ret
      exact ⟨by rw [HI.out, t1]; rfl, rfl⟩
  · have hm : majN n = 0 := if_neg h
    rw [hm] at H
    have HI : Hid (isSite s n = false) := by show _ = _; unfold isSite; simp; omega
    generalize isSite s n = r at *
    clear hm h
    go_enter Tryd.func46, Tryd.ntmps46
    go_wp2_with fail
    refine (H.out _).mono ?_
    rintro e w' ⟨rfl, rfl⟩
    go_wp2_with fail
    go_ret
    exact ⟨by rw [HI.out]; rfl, rfl⟩
set_option maxRecDepth 100000 in
set_option maxHeartbeats 4000000 in
theorem fieldsOf2_any (m : Ml) (A : Option Addr) (c : Nat) (w : World) (hA : AskM w) : Calls Tryd.prog 45 #[m.v (.slice A m.es.length c)] w (NumPost (.tuple #[.int .u64 (if 1 ≤ m.ki ∧ m.ki ≤ 10 then (bitsK m.ki m.ep : Int) else 0), .bool (decide (1 ≤ m.ki ∧ m.ki ≤ 10))]) w) := by
  obtain ⟨R, HR⟩ : ∃ R, Hid (R = Value.tuple #[.int .u64 (if 1 ≤ m.ki ∧ m.ki ≤ 10 then (bitsK m.ki m.ep : Int) else 0), .bool (decide (1 ≤ m.ki ∧ m.ki ≤ 10))]) := ⟨_, Lib.hid rfl⟩
  rw [← HR.out]
  obtain ⟨ki, fr, tt, st, ep, vi, ba, le, sp, es, ⟨oi, os, ox, ok, oa⟩, ai, ac, av⟩ := m
  dsimp only [Ml.v, Ml.cells] at *
  generalize es.length = n at *
  obtain ⟨w0, HW0⟩ : ∃ w0, Hid (w.alloc (.cells #[.int .i64 ki, .int .i64 fr, .int .i64 tt, .int .i64 st, .int .i64 ep, .int .i64 vi, .int .i64 ba, .int .i64 le, .int .i64 sp, .slice A n c, .int .i64 oi, .int .i64 os, .int .i64 ox, .int .i64 ok, .int .i64 oa, .int .i64 ai, .int .i64 ac, .int .i64 av] 45) = w0) := ⟨_, Lib.hid rfl⟩
  have hb0 : Below w.heap.size w w0 := by rw [← HW0.out]; exact (Below.refl _ _).alloc (Nat.le_refl _) _
  have B0 : w0.heap[w.heap.size]? = some (.cells #[.int .i64 ki, .int .i64 fr, .int .i64 tt, .int .i64 st, .int .i64 ep, .int .i64 vi, .int .i64 ba, .int .i64 le, .int .i64 sp, .slice A n c, .int .i64 oi, .int .i64 os, .int .i64 ox, .int .i64 ok, .int .i64 oa, .int .i64 ai, .int .i64 ac, .int .i64 av] 45 (0, 0)) := by rw [← HW0.out]; exact heap_alloc_new _ _
  have c0 : w0.cell? ⟨w.heap.size, 0, none⟩ = some (.int .i64 ki) := by rw [Lib.cell_of_heap B0]; rfl
  have c4 : w0.cell? ⟨w.heap.size, 4, none⟩ = some (.int .i64 ep) := by rw [Lib.cell_of_heap B0]; rfl
  have HK := Lib.hid (hA.kinds.keep hb0).2
  have HB0 := Lib.hid hb0
  clear hA hb0 B0
  by_cases h1 : ki < 1
  · have t : decide (ki < 1) = true := decide_eq_true h1
    go_enter Tryd.func45, Tryd.ntmps45
    go_wp2_with (rw [HW0.out])
    go_ret2
    exact ⟨by rw [HR.out]; simp [show ¬ (1 ≤ ki ∧ ki ≤ 10) by omega], HB0.out⟩
  have t1 : decide (ki < 1) = false := decide_eq_false h1
  by_cases h2 : 10 < ki
  · have t : decide (10 < ki) = true := decide_eq_true h2
    go_enter Tryd.func45, Tryd.ntmps45
    go_wp2_with (rw [HW0.out])
    go_ret2
    exact ⟨by rw [HR.out]; simp [show ¬ (1 ≤ ki ∧ ki ≤ 10) by omega], HB0.out⟩
  have h3 : ki = 1 ∨ ki = 2 ∨ ki = 3 ∨ ki = 4 ∨ ki = 5 ∨ ki = 6 ∨ ki = 7 ∨ ki = 8 ∨ ki = 9 ∨ ki = 10 := by omega
  clear t1 h1 h2
  rcases h3 with rfl | rfl | rfl | rfl | rfl | rfl | rfl | rfl | rfl | rfl
  · have k0 : w0.cell? ⟨6, 1, none⟩ = some (.int .u64 35) := HK.out 1 (by omega)
    go_enter Tryd.func45, Tryd.ntmps45
    go_wp2_with (rw [HW0.out])
    go_ret2
    exact ⟨by rw [HR.out]; rfl, HB0.out⟩
  · have k0 : w0.cell? ⟨6, 2, none⟩ = some (.int .u64 119) := HK.out 2 (by omega)
    go_enter Tryd.func45, Tryd.ntmps45
    go_wp2_with (rw [HW0.out])
    go_ret2
    exact ⟨by rw [HR.out]; rfl, HB0.out⟩
  · have k0 : w0.cell? ⟨6, 3, none⟩ = some (.int .u64 3) := HK.out 3 (by omega)
    by_cases he : ep = 0
    · subst he
      have hb : bits .andNot .u64 3 2 = 1 := by decide +kernel
      go_enter Tryd.func45, Tryd.ntmps45
      go_wp2_with (rw [HW0.out])
      go_ret2
      exact ⟨by rw [HR.out]; rfl, HB0.out⟩
    · have t : (ep == 0) = false := by simp [he]
      have t' : decide (ep = 0) = false := by simp [he]
      go_enter Tryd.func45, Tryd.ntmps45
      go_wp2_with (rw [HW0.out])
      go_ret2
      exact ⟨by rw [HR.out]; simp [bitsK, he], HB0.out⟩
  · have k0 : w0.cell? ⟨6, 4, none⟩ = some (.int .u64 123) := HK.out 4 (by omega)
    go_enter Tryd.func45, Tryd.ntmps45
    go_wp2_with (rw [HW0.out])
    go_ret2
    exact ⟨by rw [HR.out]; rfl, HB0.out⟩
  · have k0 : w0.cell? ⟨6, 5, none⟩ = some (.int .u64 51) := HK.out 5 (by omega)
    go_enter Tryd.func45, Tryd.ntmps45
    go_wp2_with (rw [HW0.out])
    go_ret2
    exact ⟨by rw [HR.out]; rfl, HB0.out⟩
  · have k0 : w0.cell? ⟨6, 6, none⟩ = some (.int .u64 19) := HK.out 6 (by omega)
    go_enter Tryd.func45, Tryd.ntmps45
    go_wp2_with (rw [HW0.out])
    go_ret2
    exact ⟨by rw [HR.out]; rfl, HB0.out⟩
  · have k0 : w0.cell? ⟨6, 7, none⟩ = some (.int .u64 128) := HK.out 7 (by omega)
    go_enter Tryd.func45, Tryd.ntmps45
    go_wp2_with (rw [HW0.out])
    go_ret2
    exact ⟨by rw [HR.out]; rfl, HB0.out⟩
  · have k0 : w0.cell? ⟨6, 8, none⟩ = some (.int .u64 257) := HK.out 8 (by omega)
    go_enter Tryd.func45, Tryd.ntmps45
    go_wp2_with (rw [HW0.out])
    go_ret2
    exact ⟨by rw [HR.out]; rfl, HB0.out⟩
  · have k0 : w0.cell? ⟨6, 9, none⟩ = some (.int .u64 3) := HK.out 9 (by omega)
    go_enter Tryd.func45, Tryd.ntmps45
    go_wp2_with (rw [HW0.out])
    go_ret2
    exact ⟨by rw [HR.out]; rfl, HB0.out⟩
  · have k0 : w0.cell? ⟨6, 10, none⟩ = some (.int .u64 3) := HK.out 10 (by omega)
    go_enter Tryd.func45, Tryd.ntmps45
    go_wp2_with (rw [HW0.out])
    go_ret2
    exact ⟨by rw [HR.out]; rfl, HB0.out⟩
end Go.Proofs.YtkdnhfeamibmdaaDoor
