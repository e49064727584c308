/-
  The walk of the law ListsTwo: it returns true and writes nothing that was there.
-/
import Derived.Test.YtffjijgmjbhhoaaLsWorks
import Derived.Test.YtffjijgmjbhhoaaLsRCommon
import Derived.Test.YtffjijgmjbhhoaaLsPre
import Derived.Test.YtffjijgmjbhhoaaLsLeft
namespace Go.Proofs.Ytffjijgmjbhhoaa.listsTwoW
open Go.RowKit Go.Sort
set_option maxRecDepth 100000 in
set_option maxHeartbeats 2000000 in
theorem walk_off (A A' : Option Addr) (n c n' c' : Nat) (w : World) (h : 2000 < n ∨ 2000 < n') : Calls Try.prog 3 #[.slice A n c, .slice A' n' c'] w (fun e w' => e = .returned (.bool true) ∧ Below w.heap.size w w') := by
  by_cases h1 : 2000 < n
  · have t1 : decide (2000 < (n : Int)) = true := decide_eq_true (by omega)
    have t2 : (2000 : Int) < (n : Int) := by omega
    clear h
    go_enter Try.func3, Try.ntmps3
    go_wp2_with fail
    go_ret
    exact ⟨rfl, Below.refl _ _⟩
  · have t1 : decide (2000 < (n : Int)) = false := decide_eq_false (by omega)
    have t2 : ¬ (2000 : Int) < (n : Int) := by omega
    have t3 : decide (2000 < (n' : Int)) = true := decide_eq_true (by omega)
    have t4 : (2000 : Int) < (n' : Int) := by omega
    have t5 : 2000 < n' := by omega
    clear h
    go_enter Try.func3, Try.ntmps3
    go_wp2_with fail
    go_ret
    exact ⟨rfl, Below.refl _ _⟩
set_option maxRecDepth 100000 in
set_option maxHeartbeats 2000000 in
theorem walk (A : Option Addr) (c : Nat) (es : List En) (A' : Option Addr) (c' : Nat) (fs : List En) (w : World) (ha : EsB w.heap.size w (.slice A es.length c) es) (hb : EsB w.heap.size w (.slice A' fs.length c') fs) : Calls Try.prog 3 #[.slice A es.length c, .slice A' fs.length c'] w (fun e w' => e = .returned (.bool true) ∧ Below w.heap.size w w') := by
  by_cases hn : 2000 < es.length ∨ 2000 < fs.length
  · exact walk_off A A' es.length c fs.length c' w hn
  · have n1 : ¬ 2000 < es.length := by omega
    have n2 : ¬ 2000 < fs.length := by omega
    have m1 : es.length ≤ 2000 := by omega
    have m2 : fs.length ≤ 2000 := by omega
    have t1 : ¬ (2000 : Int) < (es.length : Int) := by omega
    have t2 : ¬ (2000 : Int) < (fs.length : Int) := by omega
    clear hn
    have HA : Hid (∀ X : World, Below w.heap.size w X → EsB w.heap.size X (.slice A es.length c) es) := Lib.hid fun X hX => RdB.below ha hX (Nat.le_refl _)
    have HB : Hid (∀ X : World, Below w.heap.size w X → EsB w.heap.size X (.slice A' fs.length c') fs) := Lib.hid fun X hX => RdB.below hb hX (Nat.le_refl _)
    clear ha hb
    go_enter Try.func3, Try.ntmps3
    go_wp2_with fail
    refine (twin_any (HA.out w (Below.refl _ _)) (Nat.le_refl _) (by omega)).mono ?_
    rintro e w1 ⟨g1, c1, rfl, hg1, hg1', hc1, hm1, he1, h71, hb1⟩
    have HE1 : Hid (∀ X : World, Below w1.heap.size w1 X → EsB w1.heap.size X (.slice (some ⟨g1, 0, none⟩) es.length c1) es ∧ X.cell? ⟨g1, es.length * 6, none⟩ = some (.int .i64 (-70))) := Lib.hid fun X hX => ⟨RdB.below he1 hX (Nat.le_refl _), (hX.cell (p := ⟨g1, _, none⟩) hg1').trans h71⟩
    clear he1 h71
    go_wp2_with fail
    refine (twin_any (HB.out w1 hb1) hb1.size (by omega)).mono ?_
    rintro e w2 ⟨g2, c2, rfl, hg2, hg2', hc2, hm2, he2, h72, hb2⟩
    have hB2 := hb1.trans (hb2.mono hb1.size)
    have HE2 : Hid (∀ X : World, Below w2.heap.size w2 X → EsB w2.heap.size X (.slice (some ⟨g2, 0, none⟩) fs.length c2) fs ∧ X.cell? ⟨g2, fs.length * 6, none⟩ = some (.int .i64 (-70))) := Lib.hid fun X hX => ⟨RdB.below he2 hX (Nat.le_refl _), (hX.cell (p := ⟨g2, _, none⟩) hg2').trans h72⟩
    clear he2 h72
    have HP1 := Lib.hid (prefix_any (HE1.out w2 hb2).1 (HE2.out w2 (Below.refl _ _)).1)
    have HP2 : Hid (∀ X, Below w.heap.size w X → Calls Try.prog 13 #[.slice A es.length c, .slice A' fs.length c'] X (NumPost (.bool (pre es fs)) X)) := Lib.hid fun X hX => rprefix_any (HA.out X hX) (HB.out X hX)
    have HC1 : Hid (∀ X, Below w2.heap.size w2 X → Calls Try.prog 14 #[.slice (some ⟨g1, 0, none⟩) es.length c1, .slice (some ⟨g2, 0, none⟩) fs.length c2] X (NumPost (.int .i64 (cp es fs)) X)) := Lib.hid fun X hX => common_any (HE1.out X (hb2.trans (hX.mono hb2.size))).1 (HE2.out X hX).1
    have HC2 : Hid (∀ X, Below w.heap.size w X → Calls Try.prog 15 #[.slice A es.length c, .slice A' fs.length c'] X (NumPost (.int .i64 (cp es fs)) X)) := Lib.hid fun X hX => rcommon_any (HA.out X hX) (HB.out X hX)
    generalize pre es fs = pb at *
    generalize cp es fs = pc at *
    go_wp2_with fail
    refine (HP1.out).mono ?_
    rintro e w3 ⟨rfl, hb3⟩
    have hB3 := hB2.trans (hb3.mono hB2.size)
    go_wp2_with fail
    refine (HP2.out w3 hB3).mono ?_
    rintro e w4 ⟨rfl, hb4⟩
    have hB4 := hB3.trans (hb4.mono hB3.size)
    have hD4 := hb3.trans (hb4.mono hb3.size)
    go_wp2_with fail
    refine (HC1.out w4 hD4).mono ?_
    rintro e w5 ⟨rfl, hb5⟩
    have hB5 := hB4.trans (hb5.mono hB4.size)
    have hD5 := hD4.trans (hb5.mono hD4.size)
    go_wp2_with fail
    refine (HC2.out w5 hB5).mono ?_
    rintro e w6 ⟨rfl, hb6⟩
    have hB6 := hB5.trans (hb6.mono hB5.size)
    have hD6 := hD5.trans (hb6.mono hD5.size)
    have hF6 := hb2.trans (hD6.mono hb2.size)
    go_wp2_with fail
    refine (left_any (RdB.mono (HE1.out w6 hF6).1 hF6.size) hc1 hm1 (HE1.out w6 hF6).2 (HA.out w6 hB6) (by omega)).mono ?_
    rintro e w7 ⟨rfl, hb7⟩
    have hB7 := hB6.trans (hb7.mono hB6.size)
    have hD7 := hD6.trans (hb7.mono hD6.size)
    go_wp2_with fail
    refine (left_any (RdB.mono (HE2.out w7 hD7).1 hD7.size) hc2 hm2 (HE2.out w7 hD7).2 (HB.out w7 hB7) (by omega)).mono ?_
    rintro e w8 ⟨rfl, hb8⟩
    have hB8 := hB7.trans (hb8.mono hB7.size)
    go_wp2_with fail
    refine (lsWorks_any w8).mono ?_
    rintro e w9 ⟨rfl, hb9⟩
    go_wp2_with fail
    go_ret
    exact ⟨rfl, hB8.trans (hb9.mono hB8.size)⟩
end Go.Proofs.Ytffjijgmjbhhoaa.listsTwoW
