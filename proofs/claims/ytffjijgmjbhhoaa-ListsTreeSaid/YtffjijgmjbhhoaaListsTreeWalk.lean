/-
  The walk of the law ListsTree: it returns true and writes nothing that was there.
-/
import Derived.Test.YtffjijgmjbhhoaaLsWorks
import Derived.Test.YtffjijgmjbhhoaaLsPre
namespace Go.Proofs.Ytffjijgmjbhhoaa.listsTreeW
open Go.RowKit Go.Sort
theorem wrap_rem (a L : Nat) (_ : L ≤ 500) : (a : Int).tmod ((L : Int) + 1) = ((a % (L + 1) : Nat) : Int) := by
  rw [show ((L : Int) + 1) = ((L + 1 : Nat) : Int) by omega]
  exact (Int.ofNat_tmod a (L + 1)).symm
set_option maxRecDepth 100000 in
set_option maxHeartbeats 2000000 in
theorem walk (A : Option Addr) (c : Nat) (es : List En) (a b : Nat) (w : World) (ha : EsB w.heap.size w (.slice A es.length c) es) (h1 : a < 65536) (h2 : b < 65536) : Calls Try.prog 7 #[.slice A es.length c, .agg #[.int .u16 (a : Int), .int .u16 (b : Int)]] w (fun e w' => e = .returned (.bool true) ∧ Below w.heap.size w w') := by
  by_cases hn : 500 < es.length
  · have t2 : (500 : Int) < (es.length : Int) := by omega
    clear ha
    generalize es.length = n at *
    go_enter Try.func7, Try.ntmps7
    go_wp2_with fail
    go_ret
    exact ⟨rfl, (Below.refl _ _).alloc (Nat.le_refl _) _⟩
  · have t1 : ¬ (500 : Int) < (es.length : Int) := by omega
    have t2 : es.length ≤ 500 := by omega
    have e1 := wrap_rem a es.length t2
    have e2 := wrap_rem b es.length t2
    obtain ⟨i, hi, hi'⟩ : ∃ i, a % (es.length + 1) = i ∧ i ≤ es.length := ⟨_, rfl, by have := Nat.mod_lt a (show 0 < es.length + 1 by omega); omega⟩
    obtain ⟨j, hj, hj'⟩ : ∃ j, b % (es.length + 1) = j ∧ j ≤ es.length := ⟨_, rfl, by have := Nat.mod_lt b (show 0 < es.length + 1 by omega); omega⟩
    rw [hi] at e1
    rw [hj] at e2
    clear hi hj
    obtain ⟨_, _, hv, hl1, hl2, hl3⟩ := ha.len
    injection hv with q1 _ q3
    subst q1 q3
    have hic : i ≤ c := by omega
    have hjc : j ≤ c := by omega
    have HA : ∀ X : World, Below w.heap.size w X → EsB w.heap.size X (.slice A es.length c) es := fun X hX => RdB.below ha hX (Nat.le_refl _)
    have HI : ∀ X : World, Below w.heap.size w X → EsB w.heap.size X (.slice A i c) (es.take i) := fun X hX => EsB.take (HA X hX) hi'
    have HJ : ∀ X : World, Below w.heap.size w X → EsB w.heap.size X (.slice A j c) (es.take j) := fun X hX => EsB.take (HA X hX) hj'
    have pl : es.take es.length = es := List.take_length
    have P1 : Hid (∀ X, Below w.heap.size w X → Calls Try.prog 12 #[.slice A i c, .slice A es.length c] X (NumPost (.bool true) X)) := Lib.hid fun X hX => by
      have h := prefix_any (HI X hX) (HA X hX)
      have e := (pre_take es hi' (Nat.le_refl _)).2
      rw [pl, decide_eq_true hi'] at e
      rwa [e] at h
    have P2 : Hid (∀ X, Below w.heap.size w X → Calls Try.prog 12 #[.slice A j c, .slice A es.length c] X (NumPost (.bool true) X)) := Lib.hid fun X hX => by
      have h := prefix_any (HJ X hX) (HA X hX)
      have e := (pre_take es hj' (Nat.le_refl _)).2
      rw [pl, decide_eq_true hj'] at e
      rwa [e] at h
    have P3 : Hid (∀ X, Below w.heap.size w X → Calls Try.prog 12 #[.slice A i c, .slice A j c] X (NumPost (.bool (decide (i ≤ j))) X)) := Lib.hid fun X hX => by
      have h := prefix_any (HI X hX) (HJ X hX)
      rwa [(pre_take es hi' hj').2] at h
    have P4 : Hid (∀ X, Below w.heap.size w X → Calls Try.prog 12 #[.slice A j c, .slice A i c] X (NumPost (.bool (decide (j ≤ i))) X)) := Lib.hid fun X hX => by
      have h := prefix_any (HJ X hX) (HI X hX)
      rwa [(pre_take es hj' hi').2] at h
    have P5 : Hid (∀ X, Below w.heap.size w X → Calls Try.prog 14 #[.slice A i c, .slice A j c] X (NumPost (.int .i64 (min i j : Nat)) X)) := Lib.hid fun X hX => by
      have h := common_any (HI X hX) (HJ X hX)
      rwa [(pre_take es hi' hj').1] at h
    clear ha HA HI HJ hl3 pl
    go_enter Try.func7, Try.ntmps7
    go_wp2_with fail
    go_quiet (fail)
    go_wp2_with fail
    have hB1 : Below w.heap.size w ((w.alloc (.cells #[.int .u16 (a : Int), .int .u16 (b : Int)] 36)).drewN nq) := below_drewN ((Below.refl _ _).alloc (Nat.le_refl _) _) nq
    generalize (w.alloc (.cells #[.int .u16 (a : Int), .int .u16 (b : Int)] 36)).drewN nq = w1 at *
    refine (P1.out w1 hB1).mono ?_
    rintro e w2 ⟨rfl, hb2⟩
    have hB2 := hB1.trans (hb2.mono hB1.size)
    go_wp2_with fail
    refine (P2.out w2 hB2).mono ?_
    rintro e w3 ⟨rfl, hb3⟩
    have hB3 := hB2.trans (hb3.mono hB2.size)
    go_wp2_with fail
    refine (P3.out w3 hB3).mono ?_
    rintro e w4 ⟨rfl, hb4⟩
    have hB4 := hB3.trans (hb4.mono hB3.size)
    obtain ⟨x, hx⟩ : ∃ x : Bool, Hid (decide (i ≤ j) = x) := ⟨_, Lib.hid rfl⟩
    rw [hx.out]
    have tx : decide ((i : Int) ≤ (j : Int)) = x := by rw [← hx.out]; simp
    have tx' : decide (i ≤ j) = x := hx.out
    go_wp2_with fail
    refine (P4.out w4 hB4).mono ?_
    rintro e w5 ⟨rfl, hb5⟩
    have hB5 := hB4.trans (hb5.mono hB4.size)
    obtain ⟨y, hy⟩ : ∃ y : Bool, Hid (decide (j ≤ i) = y) := ⟨_, Lib.hid rfl⟩
    rw [hy.out]
    have ty : decide ((j : Int) ≤ (i : Int)) = y := by rw [← hy.out]; simp
    have ty' : decide (j ≤ i) = y := hy.out
    go_wp2_with fail
    refine (P5.out w5 hB5).mono ?_
    rintro e w6 ⟨rfl, hb6⟩
    have hB6 := hB5.trans (hb6.mono hB5.size)
    obtain ⟨m, hm⟩ : ∃ m : Nat, Hid (min i j = m) := ⟨_, Lib.hid rfl⟩
    rw [hm.out]
    have tm : min (i : Int) (j : Int) = (m : Int) := by rw [← hm.out]; omega
    go_wp2_with fail
    refine (lsWorks_any w6).mono ?_
    rintro e w7 ⟨rfl, hb7⟩
    go_wp2_with fail
    go_ret
    exact ⟨rfl, hB6.trans (hb7.mono hB6.size)⟩
end Go.Proofs.Ytffjijgmjbhhoaa.listsTreeW
