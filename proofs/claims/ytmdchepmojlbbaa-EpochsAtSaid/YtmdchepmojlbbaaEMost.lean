/-
  The contract of Most of package epochs.
-/
import Derived.Test.YtmdchepmojlbbaaESorted
import Derived.Test.YtmdchepmojlbbaaEPure
namespace Go.Proofs.Ytmdchepmojlbbaa
open Go.RowKit Go.Shelf
def mostV (l : List Int) (n : Int) : Value := .tuple #[.int .i64 (Epo.most l n).1, .bool (Epo.most l n).2]
theorem most_out {l : List Int} {n : Int} (h : ¬ (2 ≤ n ∧ n ≤ 7) ∨ n < (l.length : Int) ∨ (l.length : Int) < Epo.maj n) : mostV l n = .tuple #[.int .i64 0, .bool false] := by
  unfold mostV Epo.most
  rw [if_neg]
  rintro ⟨h1, h2, h3, h4⟩
  rw [Epo.maj_range (by omega) (by omega)] at h
  omega
theorem most_in {l : List Int} {n : Int} (h1 : 2 ≤ n) (h2 : n ≤ 7) (h3 : (l.length : Int) ≤ n) (h4 : Epo.maj n ≤ (l.length : Int)) : mostV l n = .tuple #[.int .i64 (Epo.place l (Epo.maj n).toNat), .bool true] := by
  rw [Epo.maj_range h1 h2] at h4 ⊢
  unfold mostV Epo.most
  rw [if_pos ⟨h1, h2, h3, h4⟩]
set_option maxRecDepth 100000 in
set_option maxHeartbeats 2000000 in
theorem most_any (v : Value) (l : List Int) (n : Int) (w : World) (hI : Ints w v l) :
    Calls Try.prog 16 #[v, .int .i64 n] w fun e w' => e = .returned (mostV l n) ∧ Below w.heap.size w w' := by
  have hI' := Lib.hid hI
  obtain ⟨A, c, rfl, hlc, hcm, _, _⟩ := hI
  unfold maxLen at hcm
  have HN := Lib.hid (soMany_any n)
  have HJ := Lib.hid (majority_any n)
  rcases sites_split n with ⟨h1, h2, hs⟩ | ⟨h, hs⟩
  · rw [hs] at HN
    have hj : 2 ≤ Epo.maj n ∧ Epo.maj n ≤ n := by rw [Epo.maj_range h1 h2]; omega
    by_cases h3 : (l.length : Int) ≤ n
    · by_cases h4 : Epo.maj n ≤ (l.length : Int)
      · have HM := Lib.hid (most_in h1 h2 h3 h4)
        have hpl : ∃ k : Nat, k + (Epo.maj n).toNat = l.length ∧ k < l.length ∧ (l.length : Int) - Epo.maj n = (k : Int) ∧ Epo.place l (Epo.maj n).toNat = (Epo.rise l).getD k 0 := ⟨l.length - (Epo.maj n).toNat, by omega, by omega, by omega, rfl⟩
        obtain ⟨k, hk1, hk2, hk3, hk4⟩ := hpl
        have HK := Lib.hid hk4
        have HL := Lib.hid (Epo.rise_len l)
        generalize Epo.maj n = j at *
        clear hk1 hk4
        go_enter Try.func16, Try.ntmps16
        go_wp2_with fail
        refine (HN.out _).mono ?_
        rintro e w' ⟨rfl, rfl⟩
        go_wp2_with fail
        refine (HJ.out _).mono ?_
        rintro e w' ⟨rfl, rfl⟩
        go_wp2_with fail
        refine (values_any _ _ _ _).mono ?_
        rintro e w' ⟨rfl, rfl⟩
        go_wp2_with fail
        refine (sorted_any w.heap.size _ l (by omega) (by omega) _ (by simp) (Boxed.new w 29 (.slice A l.length c)).cell (hI'.out.below ((Below.refl _ w).alloc (Nat.le_refl _) _))).mono ?_
        rintro e w' ⟨v, rfl, hrow, hb⟩
        have hb' : Below w.heap.size w w' := ((Below.refl _ w).alloc (Nat.le_refl _) _).trans (hb.mono (by simp))
        have hR := Ints.own hrow
        rw [World.size_alloc] at hrow
        clear hb hI'
        obtain ⟨A', c', rfl, g1, g2, _, g4⟩ := hR
        unfold maxLen at g2
        rw [HL.out] at g1 g4 ⊢
        obtain ⟨b, off, rfl, hb2, hcell⟩ := g4 (by omega)
        have hk := hcell k hk2
        rw [← HK.out] at hk
        clear hcell g4 hrow HK
        generalize Epo.place l j.toNat = p at *
        have hk5 : (l.length : Int) - j = k := hk3
        go_wp2_with fail
        refine (HJ.out _).mono ?_
        rintro e w'' ⟨rfl, rfl⟩
        go_wp2_with fail
        go_ret2
        exact ⟨by rw [HM.out]; rfl, hb'⟩
      · have HM := Lib.hid (most_out (l := l) (n := n) (by omega))
        generalize Epo.maj n = j at *
        go_enter Try.func16, Try.ntmps16
        go_wp2_with fail
        refine (HN.out _).mono ?_
        rintro e w' ⟨rfl, rfl⟩
        go_wp2_with fail
        refine (HJ.out _).mono ?_
        rintro e w' ⟨rfl, rfl⟩
        go_wp2_with fail
        go_ret2
        exact ⟨by rw [HM.out]; rfl, Below.refl _ _⟩
    · have HM := Lib.hid (most_out (l := l) (n := n) (by omega))
      go_enter Try.func16, Try.ntmps16
      go_wp2_with fail
      refine (HN.out _).mono ?_
      rintro e w' ⟨rfl, rfl⟩
      go_wp2_with fail
      go_ret2
      exact ⟨by rw [HM.out]; rfl, Below.refl _ _⟩
  · rw [hs] at HN
    have HM := Lib.hid (most_out (l := l) (n := n) (by omega))
    clear h
    go_enter Try.func16, Try.ntmps16
    go_wp2_with fail
    refine (HN.out _).mono ?_
    rintro e w' ⟨rfl, rfl⟩
    go_wp2_with fail
    go_ret2
    exact ⟨by rw [HM.out]; rfl, Below.refl _ _⟩
end Go.Proofs.Ytmdchepmojlbbaa
