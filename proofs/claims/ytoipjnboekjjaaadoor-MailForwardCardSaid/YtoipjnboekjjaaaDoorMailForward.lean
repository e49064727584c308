/-
  The law MailForward: for every input the call returns true, and each argument reads afterwards as it read before. No condition.
-/
import Derived.Test.YtoipjnboekjjaaaDoorMlWorks
import Derived.Test.YtoipjnboekjjaaaDoorCards
import Derived.Test.YtoipjnboekjjaaaDoorTie
import Derived.Test.YtoipjnboekjjaaaDoorMlLaid
import Derived.WalkKit
import Derived.Deep.DeepHandedRow
import Derived.Lib.LaidTab
import Derived.ProofKit
import Derived.OpenShut
import Derived.ShutString
namespace Go.Proofs.YtoipjnboekjjaaaDoor.mailForwardW
open Go.RowKit
def m1 (n : Int) (o : Od) : Ml := ⟨7, n - 1, 0, 0, 0, 0, 0, 0, 0, [], o, 0, 0, 0⟩
def m2 (n a b c : Int) : Ml := ⟨8, 0, n - 1, 3, 0, 0, 0, 0, 0, [], Od.none, a, b, c⟩
def m3 (o : Od) (a b c : Int) : Ml := ⟨7, 0, 0, 0, 0, 0, 0, 0, 0, [], o, a, b, c⟩
def ansB (a b c : Int) : Bool := inb 1 2147483647 a && (inb 1 7 b && inb 0 64 c)
theorem site_ok {s n : Int} (h : 2 ≤ n ∧ n ≤ 7) (h1 : 0 ≤ s) (h2 : s < n) : isSite s n = true := by unfold isSite; simp; omega
theorem m1_err {n : Int} {o : Od} (h : 2 ≤ n ∧ n ≤ 7) : (m1 n o).err n = if o.may then 0 else 2 := by
  have h1 : (m1 n o).may n = o.may := by
    unfold Ml.may
    simp only [m1, site_ok h (show 0 ≤ n - 1 by omega) (show n - 1 < n by omega), site_ok h (Int.le_refl 0) (show 0 < n by omega)]
    show ((true && (true && true)) && (numsA 128 0 0 0 0 0 0 && (entsA 128 0 0 0 0 [] && (ordA 128 o && ansA 128 0 0 0)))) = o.may
    rw [show numsA 128 0 0 0 0 0 0 = true by decide +kernel, show entsA 128 0 0 0 0 [] = true by decide +kernel, show ansA 128 0 0 0 = true by decide +kernel, show ordA 128 o = o.may from rfl]
    simp
  unfold Ml.err
  rw [h1]
theorem m2_err {n a b c : Int} (h : 2 ≤ n ∧ n ≤ 7) : (m2 n a b c).err n = if ansB a b c then 0 else 2 := by
  have h1 : (m2 n a b c).may n = ansB a b c := by
    unfold Ml.may
    simp only [m2, site_ok h (show 0 ≤ n - 1 by omega) (show n - 1 < n by omega), site_ok h (Int.le_refl 0) (show 0 < n by omega)]
    show ((true && (true && true)) && (numsA 257 3 0 0 0 0 0 && (entsA 257 3 0 0 0 [] && (ordA 257 Od.none && ansA 257 a b c)))) = ansB a b c
    rw [show numsA 257 3 0 0 0 0 0 = true by decide +kernel, show entsA 257 3 0 0 0 [] = true by decide +kernel, show ordA 257 Od.none = true by decide +kernel, show ansA 257 a b c = ansB a b c from rfl]
    simp
  unfold Ml.err
  rw [h1]
theorem m3_err {n a b c : Int} {o : Od} (h : 2 ≤ n ∧ n ≤ 7) : (m3 o a b c).err n = if o.may && decide (a = 0 ∧ b = 0 ∧ c = 0) then 0 else 2 := by
  have h1 : (m3 o a b c).may n = (o.may && decide (a = 0 ∧ b = 0 ∧ c = 0)) := by
    unfold Ml.may
    simp only [m3, site_ok h (Int.le_refl 0) (show 0 < n by omega)]
    show ((true && (true && true)) && (numsA 128 0 0 0 0 0 0 && (entsA 128 0 0 0 0 [] && (ordA 128 o && ansA 128 a b c)))) = _
    rw [show numsA 128 0 0 0 0 0 0 = true by decide +kernel, show entsA 128 0 0 0 0 [] = true by decide +kernel, show ordA 128 o = o.may from rfl, show ansA 128 a b c = decide (a = 0 ∧ b = 0 ∧ c = 0) from rfl]
    simp
  unfold Ml.err
  rw [h1]
theorem m0_err {n : Int} {o : Od} (h : ¬ (2 ≤ n ∧ n ≤ 7)) : (m3 o 0 0 0).err n = 2 := by
  have h1 : (m3 o 0 0 0).may n = false := by
    unfold Ml.may
    have : isSite (m3 o 0 0 0).fr n = false := by unfold isSite; simp; omega
    rw [this]; simp
  unfold Ml.err
  rw [h1]; rfl
set_option maxRecDepth 100000 in
set_option maxHeartbeats 8000000 in
theorem walk (o : Od) (a b c n : Int) (w : World) (hA : AskM w) (_ : o.ints) (_ : IntsOk [a, b, c]) (_ : (Lit.int .i64 n).wf) :
    Calls Tryd.prog 10 #[.agg #[.int .i64 o.id, .int .i64 o.st, .int .i64 o.ex, .int .i64 o.ki, .int .i64 o.ar], .agg #[.int .i64 a, .int .i64 b, .int .i64 c], .int .i64 n] w fun e w' => e = .returned (.bool true) ∧ Below w.heap.size w w' := by
  have HAK := Lib.hid (fun X (hX : Below w.heap.size w X) => hA.keep hX)
  have HWK := Lib.hid (fun X (hX : Below w.heap.size w X) => mlWorks_any (hA.keep hX))
  have G1 := Lib.hid (fun X (hX : Below w.heap.size w X) => mlCheck_any (m1 n o) n none 0 (HAK.out X hX) (esb_nil _ X) (Nat.le_refl _) (by simp [m1]))
  have G2 := Lib.hid (fun X (hX : Below w.heap.size w X) => mlCheck_any (m2 n a b c) n none 0 (HAK.out X hX) (esb_nil _ X) (Nat.le_refl _) (by simp [m2]))
  have G3 := Lib.hid (fun X (hX : Below w.heap.size w X) => mlCheck_any (m3 o a b c) n none 0 (HAK.out X hX) (esb_nil _ X) (Nat.le_refl _) (by simp [m3]))
  have G0 := Lib.hid (fun X (hX : Below w.heap.size w X) => mlCheck_any (m3 o 0 0 0) n none 0 (HAK.out X hX) (esb_nil _ X) (Nat.le_refl _) (by simp [m3]))
  have GO := Lib.hid (fun X (hX : Below w.heap.size w X) => check_any o X (HAK.out X hX).rc.1)
  have HMJ := Lib.hid (fun X => majority_any n X)
  have HE1 : Hid (2 ≤ n ∧ n ≤ 7 → (m1 n o).err n = if o.may then 0 else 2) := m1_err
  have HE2 : Hid (2 ≤ n ∧ n ≤ 7 → (m2 n a b c).err n = if ansB a b c then 0 else 2) := m2_err
  have HE3 : Hid (2 ≤ n ∧ n ≤ 7 → (m3 o a b c).err n = if o.may && decide (a = 0 ∧ b = 0 ∧ c = 0) then 0 else 2) := m3_err
  have HE0 : Hid (¬ (2 ≤ n ∧ n ≤ 7) → (m3 o 0 0 0).err n = 2) := m0_err
  have HEO : Hid (o.err = if o.may then 0 else 2) := rfl
  have HAB : Hid (ansB a b c = (inb 1 2147483647 a && (inb 1 7 b && inb 0 64 c))) := rfl
  generalize (m1 n o).err n = e1 at *
  generalize (m2 n a b c).err n = e2 at *
  generalize (m3 o a b c).err n = e3 at *
  generalize (m3 o 0 0 0).err n = e0 at *
  generalize o.err = eo at *
  generalize o.may = om at *
  generalize ansB a b c = bA at *
  obtain ⟨oi, os, ox, ok, oa⟩ := o
  simp only [Ml.v, Ml.cells, m1, m2, m3, Od.v, Od.none, List.length_nil] at G0 G1 G2 G3 GO
  obtain ⟨w0, HW0⟩ : ∃ w0, Hid ((w.alloc (.cells #[.int .i64 oi, .int .i64 os, .int .i64 ox, .int .i64 ok, .int .i64 oa] 28)).alloc (.cells #[.int .i64 a, .int .i64 b, .int .i64 c] 43) = w0) := ⟨_, Lib.hid rfl⟩
  have hb0 : Below w.heap.size w w0 := by rw [← HW0.out]; exact ((Below.refl _ _).alloc (Nat.le_refl _) _).alloc (by simp) _
  have n1 : w0.heap[w.heap.size]? = some (.cells #[.int .i64 oi, .int .i64 os, .int .i64 ox, .int .i64 ok, .int .i64 oa] 28 (0, 0)) := by rw [← HW0.out]; exact heap_alloc2_old _ _ _
  have n2 : w0.heap[w.heap.size + 1]? = some (.cells #[.int .i64 a, .int .i64 b, .int .i64 c] 43 (0, 0)) := by rw [← HW0.out]; exact heap_alloc2_new _ _ _
  have hs0 : w0.heap.size = w.heap.size + 2 := by rw [← HW0.out]; simp
  have HC := Lib.hid (fun X (hX : Below w0.heap.size w0 X) => And.intro ((hX.block w.heap.size (by omega)).trans n1) ((hX.block (w.heap.size + 1) (by omega)).trans n2))
  have HB0 := Lib.hid hb0
  clear hA hb0 n1 n2 HAK hs0
  by_cases hs : 2 ≤ n ∧ n ≤ 7
  rotate_left
  · rw [show majN n = 0 from if_neg hs] at HMJ
    obtain rfl : e0 = 2 := HE0.out hs
    clear hs
    obtain ⟨n1, n2⟩ := HC.out w0 (Below.refl _ _)
    have p0 : w0.cell? ⟨w.heap.size, 0, none⟩ = some (.int .i64 oi) := by rw [Lib.cell_of_heap n1]; rfl
    have p1 : w0.cell? ⟨w.heap.size, 1, none⟩ = some (.int .i64 os) := by rw [Lib.cell_of_heap n1]; rfl
    have p2 : w0.cell? ⟨w.heap.size, 2, none⟩ = some (.int .i64 ox) := by rw [Lib.cell_of_heap n1]; rfl
    have p3 : w0.cell? ⟨w.heap.size, 3, none⟩ = some (.int .i64 ok) := by rw [Lib.cell_of_heap n1]; rfl
    have p4 : w0.cell? ⟨w.heap.size, 4, none⟩ = some (.int .i64 oa) := by rw [Lib.cell_of_heap n1]; rfl
    have q0 : w0.cell? ⟨w.heap.size + 1, 0, none⟩ = some (.int .i64 a) := by rw [Lib.cell_of_heap n2]; rfl
    have q1 : w0.cell? ⟨w.heap.size + 1, 1, none⟩ = some (.int .i64 b) := by rw [Lib.cell_of_heap n2]; rfl
    have q2 : w0.cell? ⟨w.heap.size + 1, 2, none⟩ = some (.int .i64 c) := by rw [Lib.cell_of_heap n2]; rfl
    clear n1 n2
    go_enter Tryd.func10, Tryd.ntmps10
    go_wp2_with (rw [HW0.out])
    refine (HMJ.out _).mono ?_
    rintro e wx ⟨rfl, rfl⟩
    go_wp2_with fail
    refine (G0.out _ HB0.out).mono ?_
    rintro e w1 ⟨rfl, hb1⟩
    have HB1 := Lib.hid (HB0.out.trans (hb1.mono HB0.out.size))
    clear hb1 p0 p1 p2 p3 p4 q0 q1 q2
    go_wp2_with fail
    refine (HWK.out _ HB1.out).mono ?_
    rintro e w2 ⟨rfl, hb2⟩
    go_wp2_with fail
    go_ret
    exact ⟨rfl, HB1.out.trans (hb2.mono HB1.out.size)⟩
  have hmj : majN n = n / 2 + 1 := if_pos hs
  obtain ⟨q, hq, hq0⟩ : ∃ q, n / 2 + 1 = q ∧ q ≠ 0 := ⟨_, rfl, by omega⟩
  rw [hmj, hq] at HMJ
  have t0 : (q == 0) = false := by simp [hq0]
  have F1 := Lib.hid (HE1.out hs)
  have F2 := Lib.hid (HE2.out hs)
  have F3 := Lib.hid (HE3.out hs)
  obtain ⟨h2n, h7n⟩ := hs
  clear hmj hq hq0 HE0 HE1 HE2 HE3 G0
  obtain ⟨n1, n2⟩ := HC.out w0 (Below.refl _ _)
  have p0 : w0.cell? ⟨w.heap.size, 0, none⟩ = some (.int .i64 oi) := by rw [Lib.cell_of_heap n1]; rfl
  have p1 : w0.cell? ⟨w.heap.size, 1, none⟩ = some (.int .i64 os) := by rw [Lib.cell_of_heap n1]; rfl
  have p2 : w0.cell? ⟨w.heap.size, 2, none⟩ = some (.int .i64 ox) := by rw [Lib.cell_of_heap n1]; rfl
  have p3 : w0.cell? ⟨w.heap.size, 3, none⟩ = some (.int .i64 ok) := by rw [Lib.cell_of_heap n1]; rfl
  have p4 : w0.cell? ⟨w.heap.size, 4, none⟩ = some (.int .i64 oa) := by rw [Lib.cell_of_heap n1]; rfl
  have q0 : w0.cell? ⟨w.heap.size + 1, 0, none⟩ = some (.int .i64 a) := by rw [Lib.cell_of_heap n2]; rfl
  have q1 : w0.cell? ⟨w.heap.size + 1, 1, none⟩ = some (.int .i64 b) := by rw [Lib.cell_of_heap n2]; rfl
  have q2 : w0.cell? ⟨w.heap.size + 1, 2, none⟩ = some (.int .i64 c) := by rw [Lib.cell_of_heap n2]; rfl
  clear n1 n2
  go_enter Tryd.func10, Tryd.ntmps10
  go_wp2_with (rw [HW0.out])
  refine (HMJ.out _).mono ?_
  rintro e wx ⟨rfl, rfl⟩
  go_wp2_with fail
  refine (G1.out _ HB0.out).mono ?_
  rintro e w1 ⟨rfl, hb1⟩
  have HB01 := Lib.hid hb1
  have HB1 := Lib.hid (HB0.out.trans (hb1.mono HB0.out.size))
  clear hb1 HW0 HMJ p0 p1 p2 p3 p4 q0 q1 q2
  obtain ⟨n1, n2⟩ := HC.out w1 HB01.out
  have p0 : w1.cell? ⟨w.heap.size, 0, none⟩ = some (.int .i64 oi) := by rw [Lib.cell_of_heap n1]; rfl
  have p1 : w1.cell? ⟨w.heap.size, 1, none⟩ = some (.int .i64 os) := by rw [Lib.cell_of_heap n1]; rfl
  have p2 : w1.cell? ⟨w.heap.size, 2, none⟩ = some (.int .i64 ox) := by rw [Lib.cell_of_heap n1]; rfl
  have p3 : w1.cell? ⟨w.heap.size, 3, none⟩ = some (.int .i64 ok) := by rw [Lib.cell_of_heap n1]; rfl
  have p4 : w1.cell? ⟨w.heap.size, 4, none⟩ = some (.int .i64 oa) := by rw [Lib.cell_of_heap n1]; rfl
  have q0 : w1.cell? ⟨w.heap.size + 1, 0, none⟩ = some (.int .i64 a) := by rw [Lib.cell_of_heap n2]; rfl
  have q1 : w1.cell? ⟨w.heap.size + 1, 1, none⟩ = some (.int .i64 b) := by rw [Lib.cell_of_heap n2]; rfl
  have q2 : w1.cell? ⟨w.heap.size + 1, 2, none⟩ = some (.int .i64 c) := by rw [Lib.cell_of_heap n2]; rfl
  clear n1 n2
  go_wp2_with fail
  refine (G2.out _ HB1.out).mono ?_
  rintro e w2 ⟨rfl, hb2⟩
  have HB02 := Lib.hid (HB01.out.trans (hb2.mono HB01.out.size))
  have HB2 := Lib.hid (HB1.out.trans (hb2.mono HB1.out.size))
  clear hb2 p0 p1 p2 p3 p4 q0 q1 q2
  obtain ⟨n1, n2⟩ := HC.out w2 HB02.out
  have p0 : w2.cell? ⟨w.heap.size, 0, none⟩ = some (.int .i64 oi) := by rw [Lib.cell_of_heap n1]; rfl
  have p1 : w2.cell? ⟨w.heap.size, 1, none⟩ = some (.int .i64 os) := by rw [Lib.cell_of_heap n1]; rfl
  have p2 : w2.cell? ⟨w.heap.size, 2, none⟩ = some (.int .i64 ox) := by rw [Lib.cell_of_heap n1]; rfl
  have p3 : w2.cell? ⟨w.heap.size, 3, none⟩ = some (.int .i64 ok) := by rw [Lib.cell_of_heap n1]; rfl
  have p4 : w2.cell? ⟨w.heap.size, 4, none⟩ = some (.int .i64 oa) := by rw [Lib.cell_of_heap n1]; rfl
  have q0 : w2.cell? ⟨w.heap.size + 1, 0, none⟩ = some (.int .i64 a) := by rw [Lib.cell_of_heap n2]; rfl
  have q1 : w2.cell? ⟨w.heap.size + 1, 1, none⟩ = some (.int .i64 b) := by rw [Lib.cell_of_heap n2]; rfl
  have q2 : w2.cell? ⟨w.heap.size + 1, 2, none⟩ = some (.int .i64 c) := by rw [Lib.cell_of_heap n2]; rfl
  clear n1 n2
  go_wp2_with fail
  refine (G3.out _ HB2.out).mono ?_
  rintro e w3 ⟨rfl, hb3⟩
  have HB03 := Lib.hid (HB02.out.trans (hb3.mono HB02.out.size))
  have HB3 := Lib.hid (HB2.out.trans (hb3.mono HB2.out.size))
  clear hb3 p0 p1 p2 p3 p4 q0 q1 q2
  obtain ⟨n1, n2⟩ := HC.out w3 HB03.out
  have p0 : w3.cell? ⟨w.heap.size, 0, none⟩ = some (.int .i64 oi) := by rw [Lib.cell_of_heap n1]; rfl
  have p1 : w3.cell? ⟨w.heap.size, 1, none⟩ = some (.int .i64 os) := by rw [Lib.cell_of_heap n1]; rfl
  have p2 : w3.cell? ⟨w.heap.size, 2, none⟩ = some (.int .i64 ox) := by rw [Lib.cell_of_heap n1]; rfl
  have p3 : w3.cell? ⟨w.heap.size, 3, none⟩ = some (.int .i64 ok) := by rw [Lib.cell_of_heap n1]; rfl
  have p4 : w3.cell? ⟨w.heap.size, 4, none⟩ = some (.int .i64 oa) := by rw [Lib.cell_of_heap n1]; rfl
  have q0 : w3.cell? ⟨w.heap.size + 1, 0, none⟩ = some (.int .i64 a) := by rw [Lib.cell_of_heap n2]; rfl
  have q1 : w3.cell? ⟨w.heap.size + 1, 1, none⟩ = some (.int .i64 b) := by rw [Lib.cell_of_heap n2]; rfl
  have q2 : w3.cell? ⟨w.heap.size + 1, 2, none⟩ = some (.int .i64 c) := by rw [Lib.cell_of_heap n2]; rfl
  clear n1 n2
  go_wp2_with fail
  refine (GO.out _ HB3.out).mono ?_
  rintro e w4 ⟨rfl, hb4⟩
  have HB04 := Lib.hid (HB03.out.trans (hb4.mono HB03.out.size))
  have HB4 := Lib.hid (HB3.out.trans (hb4.mono HB3.out.size))
  clear hb4 p0 p1 p2 p3 p4 q0 q1 q2
  obtain ⟨n1, n2⟩ := HC.out w4 HB04.out
  have p0 : w4.cell? ⟨w.heap.size, 0, none⟩ = some (.int .i64 oi) := by rw [Lib.cell_of_heap n1]; rfl
  have p1 : w4.cell? ⟨w.heap.size, 1, none⟩ = some (.int .i64 os) := by rw [Lib.cell_of_heap n1]; rfl
  have p2 : w4.cell? ⟨w.heap.size, 2, none⟩ = some (.int .i64 ox) := by rw [Lib.cell_of_heap n1]; rfl
  have p3 : w4.cell? ⟨w.heap.size, 3, none⟩ = some (.int .i64 ok) := by rw [Lib.cell_of_heap n1]; rfl
  have p4 : w4.cell? ⟨w.heap.size, 4, none⟩ = some (.int .i64 oa) := by rw [Lib.cell_of_heap n1]; rfl
  have q0 : w4.cell? ⟨w.heap.size + 1, 0, none⟩ = some (.int .i64 a) := by rw [Lib.cell_of_heap n2]; rfl
  have q1 : w4.cell? ⟨w.heap.size + 1, 1, none⟩ = some (.int .i64 b) := by rw [Lib.cell_of_heap n2]; rfl
  have q2 : w4.cell? ⟨w.heap.size + 1, 2, none⟩ = some (.int .i64 c) := by rw [Lib.cell_of_heap n2]; rfl
  clear n1 n2
  go_upto_region 7 with fail
  go_cut [11] (fun u wx => u = .bool bA ∧ wx = w4)
  case first =>
    by_cases h0 : 1 ≤ a
    rotate_left
    · have t : decide (1 ≤ a) = false := decide_eq_false h0
      have hz : bA = false := HAB.out.trans (by simp [inb, t])
      go_wp2_with fail
      go_meet
      case rel => exact ⟨by rw [hz], rfl⟩
    have t0' : decide (1 ≤ a) = true := decide_eq_true h0
    by_cases h1 : a ≤ 2147483647
    rotate_left
    · have t : decide (a ≤ 2147483647) = false := decide_eq_false h1
      have hz : bA = false := HAB.out.trans (by simp [inb, t])
      go_wp2_with fail
      go_meet
      case rel => exact ⟨by rw [hz], rfl⟩
    have t1' : decide (a ≤ 2147483647) = true := decide_eq_true h1
    by_cases h2 : 1 ≤ b
    rotate_left
    · have t : decide (1 ≤ b) = false := decide_eq_false h2
      have hz : bA = false := HAB.out.trans (by simp [inb, t])
      go_wp2_with fail
      go_meet
      case rel => exact ⟨by rw [hz], rfl⟩
    have t2' : decide (1 ≤ b) = true := decide_eq_true h2
    by_cases h3 : b ≤ 7
    rotate_left
    · have t : decide (b ≤ 7) = false := decide_eq_false h3
      have hz : bA = false := HAB.out.trans (by simp [inb, t])
      go_wp2_with fail
      go_meet
      case rel => exact ⟨by rw [hz], rfl⟩
    have t3' : decide (b ≤ 7) = true := decide_eq_true h3
    by_cases h4 : 0 ≤ c
    rotate_left
    · have t : decide (0 ≤ c) = false := decide_eq_false h4
      have hz : bA = false := HAB.out.trans (by simp [inb, t])
      go_wp2_with fail
      go_meet
      case rel => exact ⟨by rw [hz], rfl⟩
    have t4' : decide (0 ≤ c) = true := decide_eq_true h4
    by_cases h5 : c ≤ 64
    rotate_left
    · have t : decide (c ≤ 64) = false := decide_eq_false h5
      have hz : bA = false := HAB.out.trans (by simp [inb, t])
      go_wp2_with fail
      go_meet
      case rel => exact ⟨by rw [hz], rfl⟩
    have t5' : decide (c ≤ 64) = true := decide_eq_true h5
    have hz : bA = true := HAB.out.trans (by simp [inb, t0', t1', t2', t3', t4', t5'])
    go_wp2_with fail
    go_meet
    case rel => exact ⟨by rw [hz], rfl⟩
  case rest =>
  obtain ⟨rfl, hwc⟩ := hcut
  obtain rfl : w4 = wc := hwc.symm
  clear p0 p1 p2 p3 p4 hwc HAB G1 G2 G3 GO HB01 HB02 HB03 HB1 HB2 HB3 HC
  cases om
  · obtain rfl : e1 = 2 := F1.out
    obtain rfl : e3 = 2 := F3.out
    obtain rfl : eo = 2 := HEO.out
    cases bA
    · obtain rfl : e2 = 2 := F2.out
      go_wp2_with fail
      refine (HWK.out _ HB4.out).mono ?_
      rintro e w5 ⟨rfl, hb5⟩
      go_wp2_with fail
      go_ret
      exact ⟨rfl, HB4.out.trans (hb5.mono HB4.out.size)⟩
    · obtain rfl : e2 = 0 := F2.out
      go_wp2_with fail
      refine (HWK.out _ HB4.out).mono ?_
      rintro e w5 ⟨rfl, hb5⟩
      go_wp2_with fail
      go_ret
      exact ⟨rfl, HB4.out.trans (hb5.mono HB4.out.size)⟩
  · obtain rfl : e1 = 0 := F1.out
    obtain rfl : eo = 0 := HEO.out
    by_cases hz0 : a = 0
    rotate_left
    · have t : (a == 0) = false := by simp [hz0]
      obtain rfl : e3 = 2 := F3.out.trans (by simp [hz0])
      cases bA
      · obtain rfl : e2 = 2 := F2.out
        go_wp2_with fail
        refine (HWK.out _ HB4.out).mono ?_
        rintro e w5 ⟨rfl, hb5⟩
        go_wp2_with fail
        go_ret
        exact ⟨rfl, HB4.out.trans (hb5.mono HB4.out.size)⟩
      · obtain rfl : e2 = 0 := F2.out
        go_wp2_with fail
        refine (HWK.out _ HB4.out).mono ?_
        rintro e w5 ⟨rfl, hb5⟩
        go_wp2_with fail
        go_ret
        exact ⟨rfl, HB4.out.trans (hb5.mono HB4.out.size)⟩
    subst hz0
    by_cases hz1 : b = 0
    rotate_left
    · have t : (b == 0) = false := by simp [hz1]
      obtain rfl : e3 = 2 := F3.out.trans (by simp [hz1])
      cases bA
      · obtain rfl : e2 = 2 := F2.out
        go_wp2_with fail
        refine (HWK.out _ HB4.out).mono ?_
        rintro e w5 ⟨rfl, hb5⟩
        go_wp2_with fail
        go_ret
        exact ⟨rfl, HB4.out.trans (hb5.mono HB4.out.size)⟩
      · obtain rfl : e2 = 0 := F2.out
        go_wp2_with fail
        refine (HWK.out _ HB4.out).mono ?_
        rintro e w5 ⟨rfl, hb5⟩
        go_wp2_with fail
        go_ret
        exact ⟨rfl, HB4.out.trans (hb5.mono HB4.out.size)⟩
    subst hz1
    by_cases hz2 : c = 0
    rotate_left
    · have t : (c == 0) = false := by simp [hz2]
      obtain rfl : e3 = 2 := F3.out.trans (by simp [hz2])
      cases bA
      · obtain rfl : e2 = 2 := F2.out
        go_wp2_with fail
        refine (HWK.out _ HB4.out).mono ?_
        rintro e w5 ⟨rfl, hb5⟩
        go_wp2_with fail
        go_ret
        exact ⟨rfl, HB4.out.trans (hb5.mono HB4.out.size)⟩
      · obtain rfl : e2 = 0 := F2.out
        go_wp2_with fail
        refine (HWK.out _ HB4.out).mono ?_
        rintro e w5 ⟨rfl, hb5⟩
        go_wp2_with fail
        go_ret
        exact ⟨rfl, HB4.out.trans (hb5.mono HB4.out.size)⟩
    subst hz2
    obtain rfl : e3 = 0 := F3.out
    cases bA
    · obtain rfl : e2 = 2 := F2.out
      go_wp2_with fail
      refine (HWK.out _ HB4.out).mono ?_
      rintro e w5 ⟨rfl, hb5⟩
      go_wp2_with fail
      go_ret
      exact ⟨rfl, HB4.out.trans (hb5.mono HB4.out.size)⟩
    · obtain rfl : e2 = 0 := F2.out
      go_wp2_with fail
      refine (HWK.out _ HB4.out).mono ?_
      rintro e w5 ⟨rfl, hb5⟩
      go_wp2_with fail
      go_ret
      exact ⟨rfl, HB4.out.trans (hb5.mono HB4.out.size)⟩
end Go.Proofs.YtoipjnboekjjaaaDoor.mailForwardW

namespace Go.Proofs.YtoipjnboekjjaaaDoor.mailForward
open Go.ChangeShapes Go.WideShapes Go.ChangeAt Go.RowKit
open Go.ChangeMaps (open_string shut_string)
theorem own : ownKnob Tryd.prog.godebug = none := by kernel_rfl
theorem laidOut : laidOutB Tryd.prog = true := by kernel_rfl
noncomputable def laidWorld (os : Os) : World :=
  { World.holding Tryd.prog os ⟨#[], #[], []⟩ with heap := ((((((((((World.holding Tryd.prog os ⟨#[], #[], []⟩).heap.modify 0 fun
      | .cells _ t frozen => .cells #[.int .i64 1, .int .i64 2147483647, .int .i64 0, .int .i64 3, .int .i64 (-1), .int .i64 2147483647, .int .i64 1, .int .i64 4, .int .i64 (-1048576), .int .i64 1048576] t frozen
      | o => o).modify 1 fun
      | .cells _ t frozen => .cells #[.int .i64 0, .int .i64 3] t frozen
      | o => o).modify 2 fun
      | .cells _ t frozen => .cells #[.int .i64 1, .int .i64 1048576] t frozen
      | o => o).modify 4 fun
      | .cells _ t frozen => .cells #[.int .i64 0, .int .i64 1048576] t frozen
      | o => o).modify 3 fun
      | .cells _ t frozen => .cells #[.int .i64 0, .int .i64 64] t frozen
      | o => o).modify 6 fun
      | .cells _ t frozen => .cells #[.int .i64 0, .int .i64 63] t frozen
      | o => o).modify 5 fun
      | .cells _ t frozen => .cells #[.int .i64 0, .int .i64 256] t frozen
      | o => o).modify 7 fun
      | .cells _ t frozen => .cells #[.int .u64 0, .int .u64 35, .int .u64 119, .int .u64 3, .int .u64 123, .int .u64 51, .int .u64 19, .int .u64 128, .int .u64 257, .int .u64 3, .int .u64 3] t frozen
      | o => o).modify 8 fun
      | .cells _ t frozen => .cells #[.int .u64 1, .int .i64 0, .int .i64 3, .int .u64 2, .int .i64 1, .int .i64 1048576, .int .u64 4, .int .i64 0, .int .i64 1048576, .int .u64 8, .int .i64 0, .int .i64 64, .int .u64 16, .int .i64 0, .int .i64 64, .int .u64 32, .int .i64 0, .int .i64 1073741824] t frozen
      | o => o) }
theorem laid_met (os : Os) : laidMet Tryd.prog Rows.mailForwardRow.laid ((laidWorld os).forCall (fun _ _ => 0) ⟨#[], #[.agg #[.int .i64 0, .int .i64 0, .int .i64 0, .int .i64 0, .int .i64 0], .agg #[.int .i64 0, .int .i64 0, .int .i64 0], .int .i64 0], []⟩).memory :=
  laidMet_of_run' 8 (by kernel_rfl) (by kernel_rfl)
theorem reads (os : Os) {H : Type} (enc : TypeId × Value → H) : ∃ places, DataW.whole enc Tryd.prog ((laidWorld os).forCall (fun _ _ => 0) ⟨#[], #[.agg #[.int .i64 0, .int .i64 0, .int .i64 0, .int .i64 0, .int .i64 0], .agg #[.int .i64 0, .int .i64 0, .int .i64 0], .int .i64 0], []⟩).memory Tryd.f10.params.toList Rows.mailForwardSpec.vars false (#[.agg #[.int .i64 0, .int .i64 0, .int .i64 0, .int .i64 0, .int .i64 0], .agg #[.int .i64 0, .int .i64 0, .int .i64 0], .int .i64 0] : Array Value).toList 8 = some ([.agg [.lit (.int .i64 0), .lit (.int .i64 0), .lit (.int .i64 0), .lit (.int .i64 0), .lit (.int .i64 0)], .agg [.lit (.int .i64 0), .lit (.int .i64 0), .lit (.int .i64 0)], .lit (.int .i64 0)], [], places) :=
  ⟨[], by kernel_rfl⟩
set_option maxRecDepth 100000 in
theorem lifted (os : Os) (started : os.Started) (H : Type) (enc : TypeId × Value → H) (F : Stop.Interp) :
    ReturnsInHanded {} Tryd.checked os 10 .any ((OpenSpec.ofChange Rows.mailForwardSpec).preRow enc Tryd.prog Tryd.f10 Rows.mailForwardRow.domain false Rows.mailForwardRow.laid) (((OpenSpec.ofChange Rows.mailForwardSpec).at F).post enc Tryd.prog Tryd.f10 false true false false) := by
  obtain ⟨places, hx⟩ := reads os enc
  refine returnsInHanded_of_row (C := Tryd.checked) (s := OpenSpec.ofChange Rows.mailForwardSpec) own started (by kernel_rfl) Tryd.func10
    (witness_row_at (enc := enc) (C := Tryd.checked) false (laidWorld os) #[.agg #[.int .i64 0, .int .i64 0, .int .i64 0, .int .i64 0, .int .i64 0], .agg #[.int .i64 0, .int .i64 0, .int .i64 0], .int .i64 0] rfl (by kernel_rfl) (by kernel_rfl) (by kernel_rfl)
      (OpenSpec.preRow_of_cond 8 hx (by kernel_rfl) (fun k hk => by cases hk) (by kernel_rfl) (laid_met os))) ?_
  intro W base args ds gs before hval0 hW _ _ hsz hL _ _
  have hAsk : AskM W := askM_of hL
  have hval : ∀ (j : Nat) t v, Tryd.f10.params[j]? = some t → args[j]? = some v → Value.okWide Tryd.prog W .any base t v := hval0
  have hW' := hW
  obtain ⟨p, q, hA0, hV, rfl, hfz, hnd⟩ := hW
  have hA : DataW.TrodAll enc Tryd.prog W 0 (fun _ => true) true Tryd.f10.params.toList args.toList ds p := hA0
  rw [Tryd.params10] at hA hval
  obtain ⟨v0, vs0, d0, ds0, p0, q0, hargs, rfl, rfl, h0, r0⟩ := trodAll_cons hA
  obtain ⟨v1, vs1, d1, ds1, p1, q1, rfl, rfl, rfl, h1, r1⟩ := trodAll_cons r0
  obtain ⟨v2, vs2, d2, ds2, p2, q2, rfl, rfl, rfl, h2, r2⟩ := trodAll_cons r1
  obtain ⟨rfl, rfl, rfl⟩ := trodAll_nil r2
  obtain rfl : args = #[v0, v1, v2] := by cases args; simp_all
  obtain ⟨rfl, rfl⟩ := trodVars_none hV
  obtain ⟨cs0, rfl, hsz0⟩ := okWide_struct Tryd.underlying28 (hval 0 28 v0 rfl rfl)
  have k0 := h0
  have lt0 : ∀ x ∈ p0, x.block < W.heap.size := by obtain ⟨m, hm⟩ := k0; exact DataW.trod_lt m _ _ _ hm
  obtain ⟨o0, hx0, w0⟩ : ∃ o : Od, cs0.toList = [.int .i64 o.id, .int .i64 o.st, .int .i64 o.ex, .int .i64 o.ki, .int .i64 o.ar] ∧ o.ints := by obtain ⟨fuel, hf⟩ := h0; exact open_order hf
  obtain rfl : cs0 = #[.int .i64 o0.id, .int .i64 o0.st, .int .i64 o0.ex, .int .i64 o0.ki, .int .i64 o0.ar] := Array.toList_inj.1 hx0
  obtain ⟨cs1, rfl, hsz1⟩ := okWide_struct Tryd.underlying43 (hval 1 43 v1 rfl rfl)
  have k1 := h1
  have lt1 : ∀ x ∈ p1, x.block < W.heap.size := by obtain ⟨m, hm⟩ := k1; exact DataW.trod_lt m _ _ _ hm
  obtain ⟨x1, y1, z1, hx1, w1⟩ : ∃ a b c : Int, cs1.toList = [.int .i64 a, .int .i64 b, .int .i64 c] ∧ IntsOk [a, b, c] := by obtain ⟨fuel, hf⟩ := h1; exact open_ans hf
  obtain rfl : cs1 = #[.int .i64 x1, .int .i64 y1, .int .i64 z1] := Array.toList_inj.1 hx1
  obtain ⟨a2, rfl, rfl, rfl, w2⟩ := open_int Tryd.underlying3 (hval 2 3 v2 rfl rfl) h2
  clear hA0 hval0
  refine (mailForwardW.walk o0 x1 y1 z1 a2 W hAsk w0 w1 w2).mono fun e W' ⟨he, bel⟩ => ?_
  subst he
  exact ⟨_, rfl, _, _, _, [], _, [], hW', trodAll_mk1 (shut_bool Tryd.underlying4 _), (trodAll_cons_mk (Below.trod laidOut (by kernel_rfl) (of_decide_eq_true (by kernel_rfl)) k0 bel lt0) (trodAll_cons_mk (Below.trod laidOut (by kernel_rfl) (of_decide_eq_true (by kernel_rfl)) k1 bel lt1) (trodAll_cons_mk (shut_int Tryd.underlying3 w2) trodAll_mk0))), rfl, bel.frame _, fun h => by cases h⟩
theorem said : Rows.MailForwardSaid :=
  OpenClaim.holds_of_cond 10 Tryd.f10 rfl rfl rfl rfl rfl rfl rfl ⟨rfl, rfl, rfl, rfl, rfl⟩ rfl rfl rfl rfl rfl (by kernel_rfl) Tryd.func10 (by kernel_rfl)
    (of_decide_eq_true (by kernel_rfl)) (by unfold Func.isWrapper; first | (rw [if_pos (by decide +kernel)]; kernel_rfl) | (rw [if_neg (by decide +kernel)]; exact ⟨rfl, rfl⟩))
    (fun os started H enc _ F => by rw [OpenClaim.pre_eq_preRow]; exact lifted os started H enc F)
theorem plain (f : FuncId) (fn : Func) (hf : Tryd.pinned.checked.prog.funcNamed "archipelago/archipelagolaw11.MailForward" = some f) (hfn : Tryd.pinned.checked.prog.funcs[f]? = some fn) :
    false = Tryd.pinned.checked.prog.looks [] ∧ ∀ (j : Nat) t, fn.params[j]? = some t → Tryd.pinned.checked.prog.wantsStandIn t = false := by
  obtain rfl : f = 10 := Option.some.inj ((show Tryd.prog.funcNamed "archipelago/archipelagolaw11.MailForward" = some 10 by kernel_rfl).symm.trans hf) |>.symm
  obtain rfl : fn = Tryd.f10 := (Option.some.inj (Tryd.func10.symm.trans hfn)).symm
  refine ⟨by kernel_rfl, fun j t ht => ?_⟩
  rw [Tryd.params10] at ht
  have hm := Array.mem_of_getElem? ht
  have ht' : t = 28 ∨ t = 43 ∨ t = 3 := by simpa using hm
  rcases ht' with rfl | rfl | rfl
  · exact (show Tryd.prog.wantsStandIn 28 = false by kernel_rfl)
  · exact (show Tryd.prog.wantsStandIn 43 = false by kernel_rfl)
  · exact (show Tryd.prog.wantsStandIn 3 = false by kernel_rfl)
theorem proved : Rows.MailForwardCardSaid :=
  Claim7.holds_tied_plain_at .later [] _ _ _ _ said (fun _ h => by cases h) (by kernel_rfl) (fun _ h => by cases h) mailForward_row_tie rfl ⟨rfl, rfl⟩ (by kernel_rfl) rfl plain (by kernel_rfl)
end Go.Proofs.YtoipjnboekjjaaaDoor.mailForward
