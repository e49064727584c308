/-
  The walk of the law ListsOrder: it returns true and writes nothing that was there.
-/
import Derived.Test.YtffjijgmjbhhoaaLsWorks
import Derived.Test.YtffjijgmjbhhoaaLsPre
import Derived.Test.YtffjijgmjbhhoaaLsSame
namespace Go.Proofs.Ytffjijgmjbhhoaa.listsOrderW
open Go.RowKit Go.Sort
set_option maxRecDepth 100000 in
set_option maxHeartbeats 2000000 in
theorem walk_off (A A' A'' : Option Addr) (n c n' c' n'' c'' : Nat) (w : World) (h : 500 < n ∨ 500 < n' ∨ 500 < n'') : Calls Try.prog 6 #[.slice A n c, .slice A' n' c', .slice A'' n'' c''] w (fun e w' => e = .returned (.bool true) ∧ Below w.heap.size w w') := by
  by_cases h1 : 500 < n
  · have t2 : (500 : Int) < (n : Int) := by omega
    clear h
    go_enter Try.func6, Try.ntmps6
    go_wp2_with fail
    go_ret
    exact ⟨rfl, Below.refl _ _⟩
  · have t1 : ¬ (500 : Int) < (n : Int) := by omega
    by_cases h2 : 500 < n'
    · have t2 : (500 : Int) < (n' : Int) := by omega
      clear h
      go_enter Try.func6, Try.ntmps6
      go_wp2_with fail
      go_ret
      exact ⟨rfl, Below.refl _ _⟩
    · have t2 : ¬ (500 : Int) < (n' : Int) := by omega
      have t3 : 500 < n'' := by omega
      have t4 : (500 : Int) < (n'' : Int) := by omega
      clear h
      go_enter Try.func6, Try.ntmps6
      go_wp2_with fail
      go_ret
      exact ⟨rfl, Below.refl _ _⟩
set_option maxRecDepth 100000 in
set_option maxHeartbeats 2000000 in
theorem walk (A : Option Addr) (c : Nat) (es : List En) (A' : Option Addr) (c' : Nat) (fs : List En) (A'' : Option Addr) (c'' : Nat) (gs : List En) (w : World) (ha : EsB w.heap.size w (.slice A es.length c) es) (hb : EsB w.heap.size w (.slice A' fs.length c') fs) (hc : EsB w.heap.size w (.slice A'' gs.length c'') gs) : Calls Try.prog 6 #[.slice A es.length c, .slice A' fs.length c', .slice A'' gs.length c''] w (fun e w' => e = .returned (.bool true) ∧ Below w.heap.size w w') := by
  by_cases hn : 500 < es.length ∨ 500 < fs.length ∨ 500 < gs.length
  · exact walk_off A A' A'' es.length c fs.length c' gs.length c'' w hn
  · have n1 : ¬ 500 < es.length := by omega
    have n2 : ¬ 500 < fs.length := by omega
    have n3 : ¬ 500 < gs.length := by omega
    have t1 : ¬ (500 : Int) < (es.length : Int) := by omega
    have t2 : ¬ (500 : Int) < (fs.length : Int) := by omega
    have t3 : ¬ (500 : Int) < (gs.length : Int) := by omega
    clear hn
    have HA : ∀ X : World, Below w.heap.size w X → EsB w.heap.size X (.slice A es.length c) es := fun X hX => RdB.below ha hX (Nat.le_refl _)
    have HB : ∀ X : World, Below w.heap.size w X → EsB w.heap.size X (.slice A' fs.length c') fs := fun X hX => RdB.below hb hX (Nat.le_refl _)
    have HC : ∀ X : World, Below w.heap.size w X → EsB w.heap.size X (.slice A'' gs.length c'') gs := fun X hX => RdB.below hc hX (Nat.le_refl _)
    have HN : ∀ X : World, EsB 0 X (.slice none 0 0) [] := fun X => ⟨none, 0, rfl, Nat.le_refl _, Nat.zero_le _, fun _ => ⟨rfl, rfl⟩, fun h => by simp at h⟩
    have P1 := Lib.hid (prefix_any (HA w (Below.refl _ _)) (HB w (Below.refl _ _)))
    have P2 := Lib.hid (fun X hX => prefix_any (HB X hX) (HA X hX))
    have P3 := Lib.hid (fun X hX => prefix_any (HB X hX) (HC X hX))
    have P4 : Hid (∀ X, Below w.heap.size w X → Calls Try.prog 12 #[.slice A es.length c, .slice A es.length c] X (NumPost (.bool true) X)) := Lib.hid fun X hX => by have h := prefix_any (HA X hX) (HA X hX); rwa [pre_self] at h
    have P5 : Hid (∀ X, Below w.heap.size w X → Calls Try.prog 12 #[.slice none 0 0, .slice A es.length c] X (NumPost (.bool true) X)) := Lib.hid fun X hX => by have h := prefix_any (HN X) (HA X hX); rwa [pre_nil] at h
    have P6 := Lib.hid (fun X hX => prefix_any (HA X hX) (HC X hX))
    have S1 := Lib.hid (fun X hX => sameEn_any (HA X hX) (HB X hX))
    have hboth := Lib.hid (pre_both es fs)
    have htr : Hid (pre es fs = true → pre fs gs = true → pre es gs = true) := Lib.hid fun h1 h2 => pre_trans h1 h2
    clear ha hb hc HA HB HC HN
    rw [← hboth.out] at S1
    clear hboth
    generalize pre es fs = x at *
    generalize pre fs es = y at *
    generalize pre fs gs = z at *
    generalize pre es gs = u at *
    go_enter Try.func6, Try.ntmps6
    go_wp2_with fail
    refine (P1.out).mono ?_
    rintro e w1 ⟨rfl, hb1⟩
    go_wp2_with fail
    refine (P2.out w1 hb1).mono ?_
    rintro e w2 ⟨rfl, hb2⟩
    have hB2 := hb1.trans (hb2.mono hb1.size)
    go_wp2_with fail
    refine (P3.out w2 hB2).mono ?_
    rintro e w3 ⟨rfl, hb3⟩
    have hB3 := hB2.trans (hb3.mono hB2.size)
    go_wp2_with fail
    refine (P4.out w3 hB3).mono ?_
    rintro e w4 ⟨rfl, hb4⟩
    have hB4 := hB3.trans (hb4.mono hB3.size)
    go_wp2_with fail
    refine (P5.out w4 hB4).mono ?_
    rintro e w5 ⟨rfl, hb5⟩
    have hB5 := hB4.trans (hb5.mono hB4.size)
    clear P1 P2 P3 P4 P5 hb1 hb2 hb3 hb4 hb5 hB2 hB3 hB4
    cases x <;> cases y <;> cases z
    · go_wp2_with fail
      refine (S1.out w5 hB5).mono ?_
      rintro e w6 ⟨rfl, hb6⟩
      have hB6 := hB5.trans (hb6.mono hB5.size)
      go_wp2_with fail
      refine (lsWorks_any w6).mono ?_
      rintro e w7 ⟨rfl, hb7⟩
      go_wp2_with fail
      go_ret
      exact ⟨rfl, hB6.trans (hb7.mono hB6.size)⟩
    · go_wp2_with fail
      refine (S1.out w5 hB5).mono ?_
      rintro e w6 ⟨rfl, hb6⟩
      have hB6 := hB5.trans (hb6.mono hB5.size)
      go_wp2_with fail
      refine (lsWorks_any w6).mono ?_
      rintro e w7 ⟨rfl, hb7⟩
      go_wp2_with fail
      go_ret
      exact ⟨rfl, hB6.trans (hb7.mono hB6.size)⟩
    · go_wp2_with fail
      refine (S1.out w5 hB5).mono ?_
      rintro e w6 ⟨rfl, hb6⟩
      have hB6 := hB5.trans (hb6.mono hB5.size)
      go_wp2_with fail
      refine (lsWorks_any w6).mono ?_
      rintro e w7 ⟨rfl, hb7⟩
      go_wp2_with fail
      go_ret
      exact ⟨rfl, hB6.trans (hb7.mono hB6.size)⟩
    · go_wp2_with fail
      refine (S1.out w5 hB5).mono ?_
      rintro e w6 ⟨rfl, hb6⟩
      have hB6 := hB5.trans (hb6.mono hB5.size)
      go_wp2_with fail
      refine (lsWorks_any w6).mono ?_
      rintro e w7 ⟨rfl, hb7⟩
      go_wp2_with fail
      go_ret
      exact ⟨rfl, hB6.trans (hb7.mono hB6.size)⟩
    · go_wp2_with fail
      refine (S1.out w5 hB5).mono ?_
      rintro e w6 ⟨rfl, hb6⟩
      have hB6 := hB5.trans (hb6.mono hB5.size)
      go_wp2_with fail
      refine (lsWorks_any w6).mono ?_
      rintro e w7 ⟨rfl, hb7⟩
      go_wp2_with fail
      go_ret
      exact ⟨rfl, hB6.trans (hb7.mono hB6.size)⟩
    · obtain rfl : u = true := htr.out rfl rfl
      go_wp2_with fail
      refine (S1.out w5 hB5).mono ?_
      rintro e w6 ⟨rfl, hb6⟩
      have hB6 := hB5.trans (hb6.mono hB5.size)
      go_wp2_with fail
      refine (P6.out w6 hB6).mono ?_
      rintro e w7 ⟨rfl, hb7⟩
      have hB7 := hB6.trans (hb7.mono hB6.size)
      go_wp2_with fail
      refine (lsWorks_any w7).mono ?_
      rintro e w8 ⟨rfl, hb8⟩
      go_wp2_with fail
      go_ret
      exact ⟨rfl, hB7.trans (hb8.mono hB7.size)⟩
    · go_wp2_with fail
      refine (S1.out w5 hB5).mono ?_
      rintro e w6 ⟨rfl, hb6⟩
      have hB6 := hB5.trans (hb6.mono hB5.size)
      go_wp2_with fail
      refine (lsWorks_any w6).mono ?_
      rintro e w7 ⟨rfl, hb7⟩
      go_wp2_with fail
      go_ret
      exact ⟨rfl, hB6.trans (hb7.mono hB6.size)⟩
    · obtain rfl : u = true := htr.out rfl rfl
      go_wp2_with fail
      refine (S1.out w5 hB5).mono ?_
      rintro e w6 ⟨rfl, hb6⟩
      have hB6 := hB5.trans (hb6.mono hB5.size)
      go_wp2_with fail
      refine (P6.out w6 hB6).mono ?_
      rintro e w7 ⟨rfl, hb7⟩
      have hB7 := hB6.trans (hb7.mono hB6.size)
      go_wp2_with fail
      refine (lsWorks_any w7).mono ?_
      rintro e w8 ⟨rfl, hb8⟩
      go_wp2_with fail
      go_ret
      exact ⟨rfl, hB7.trans (hb8.mono hB7.size)⟩
end Go.Proofs.Ytffjijgmjbhhoaa.listsOrderW
