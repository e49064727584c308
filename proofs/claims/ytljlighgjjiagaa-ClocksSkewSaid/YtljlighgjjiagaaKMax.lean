/-
  The contracts of slices.Max and slices.Min at ints, and of how far clocks are apart.
-/
import Derived.Test.YtljlighgjjiagaaKMath
import Derived.Test.YtljlighgjjiagaaFoot
import Derived.Test.YtljlighgjjiagaaEInts
import Derived.Lib.MinMax
namespace Go.Proofs.Ytljlighgjjiagaa
open Go.RowKit
set_option maxRecDepth 100000 in
set_option maxHeartbeats 1000000 in
theorem max_any (v : Value) (l : List Int) (w : World) (hI : Ints w v l) (h0 : 0 < l.length) (hl : l.length ≤ 1000000) :
    Calls Try.prog 24 #[v] w fun e w' => e = .returned (.int .i64 (Clo.top l)) ∧ w = w' := by
  obtain ⟨A, c, rfl, hlc, hcm, _, h4⟩ := hI
  obtain ⟨b, off, rfl, hb, hc⟩ := h4 h0
  have HC := Lib.hid hc
  clear hc h4 hcm
  have c0 := HC.out 0 h0
  obtain ⟨x0, hx0⟩ : ∃ x, l.getD 0 0 = x := ⟨_, rfl⟩
  rw [hx0, Nat.add_zero] at c0
  have HX := Lib.hid hx0
  clear hx0
  go_enter Try.func24, Try.ntmps24
  go_wp2
  go_loopw [3, 4] (fun q i wr => ∃ (m : Int) (k : Nat), k ≤ l.length ∧ q = .int .i64 m ∧ i = .int .i64 k ∧ Hid (m ∈ l) ∧ Hid (∀ j, j < k → l.getD j 0 ≤ m) ∧ wr = w) (fun _ i _ => l.length - (intOf i).toNat)
  case atStart =>
    refine ⟨x0, 1, h0, rfl, rfl, Lib.hid (by rw [← HX.out]; exact Clo.getD_mem h0), Lib.hid fun j hj => ?_, rfl⟩
    obtain rfl : j = 0 := by omega
    rw [HX.out]; exact Int.le_refl _
  case round =>
    obtain ⟨m, k, hk, rfl, rfl, HM, HA, rfl⟩ := hrel
    by_cases hlt : k < l.length
    · have hck := HC.out k hlt
      obtain ⟨y, hy⟩ : ∃ y, l.getD k 0 = y := ⟨_, rfl⟩
      rw [hy] at hck
      have HY := Lib.hid hy
      clear hy
      go_wp2
      go_roundw
      case rel =>
        refine ⟨max m y, k + 1, by omega, by go_num, by go_num, Lib.hid ?_, Lib.hid fun j hj => ?_, trivial⟩
        · rcases Int.le_total m y with g | g
          · rw [Int.max_eq_right g]; rw [← HY.out]; exact Clo.getD_mem hlt
          · rw [Int.max_eq_left g]; exact HM.out
        · by_cases hjk : j < k
          · have := HA.out j hjk
            omega
          · obtain rfl : j = k := by omega
            rw [HY.out]; omega
      case measure => simp [intOf]; omega
    · obtain rfl : k = l.length := by omega
      have HE := Lib.hid (Clo.top_is HM.out HA.out)
      go_wp2
      go_ret
      exact ⟨by rw [HE.out]; rfl, rfl⟩
set_option maxRecDepth 100000 in
set_option maxHeartbeats 1000000 in
theorem min_any (v : Value) (l : List Int) (w : World) (hI : Ints w v l) (h0 : 0 < l.length) (hl : l.length ≤ 1000000) :
    Calls Try.prog 25 #[v] w fun e w' => e = .returned (.int .i64 (Clo.low l)) ∧ w = w' := by
  obtain ⟨A, c, rfl, hlc, hcm, _, h4⟩ := hI
  obtain ⟨b, off, rfl, hb, hc⟩ := h4 h0
  have HC := Lib.hid hc
  clear hc h4 hcm
  have c0 := HC.out 0 h0
  obtain ⟨x0, hx0⟩ : ∃ x, l.getD 0 0 = x := ⟨_, rfl⟩
  rw [hx0, Nat.add_zero] at c0
  have HX := Lib.hid hx0
  clear hx0
  go_enter Try.func25, Try.ntmps25
  go_wp2
  go_loopw [3, 4] (fun q i wr => ∃ (m : Int) (k : Nat), k ≤ l.length ∧ q = .int .i64 m ∧ i = .int .i64 k ∧ Hid (m ∈ l) ∧ Hid (∀ j, j < k → m ≤ l.getD j 0) ∧ wr = w) (fun _ i _ => l.length - (intOf i).toNat)
  case atStart =>
    refine ⟨x0, 1, h0, rfl, rfl, Lib.hid (by rw [← HX.out]; exact Clo.getD_mem h0), Lib.hid fun j hj => ?_, rfl⟩
    obtain rfl : j = 0 := by omega
    rw [HX.out]; exact Int.le_refl _
  case round =>
    obtain ⟨m, k, hk, rfl, rfl, HM, HA, rfl⟩ := hrel
    by_cases hlt : k < l.length
    · have hck := HC.out k hlt
      obtain ⟨y, hy⟩ : ∃ y, l.getD k 0 = y := ⟨_, rfl⟩
      rw [hy] at hck
      have HY := Lib.hid hy
      clear hy
      go_wp2
      go_roundw
      case rel =>
        refine ⟨min m y, k + 1, by omega, by go_num, by go_num, Lib.hid ?_, Lib.hid fun j hj => ?_, trivial⟩
        · rcases Int.le_total m y with g | g
          · rw [Int.min_eq_left g]; exact HM.out
          · rw [Int.min_eq_right g]; rw [← HY.out]; exact Clo.getD_mem hlt
        · by_cases hjk : j < k
          · have := HA.out j hjk
            omega
          · obtain rfl : j = k := by omega
            rw [HY.out]; omega
      case measure => simp [intOf]; omega
    · obtain rfl : k = l.length := by omega
      have HE := Lib.hid (Clo.low_is HM.out HA.out)
      go_wp2
      go_ret
      exact ⟨by rw [HE.out]; rfl, rfl⟩
set_option maxRecDepth 100000 in
set_option maxHeartbeats 1000000 in
theorem skew_any (v : Value) (l : List Int) (w : World) (hI : Ints w v l) (h0 : 0 < l.length) (hl : l.length ≤ 1000000) (hr : ∀ x ∈ l, 0 ≤ x ∧ x ≤ 1073741824) :
    Calls Try.prog 21 #[v] w fun e w' => e = .returned (.int .i64 (Clo.skew l)) ∧ w = w' := by
  have HMx := Lib.hid (fun W h => max_any v l W h h0 hl)
  have HMn := Lib.hid (fun W h => min_any v l W h h0 hl)
  have h1 := hr _ (Clo.top_mem h0)
  have h2 := hr _ (Clo.low_mem h0)
  have HS := Lib.hid (show Clo.skew l = Clo.top l - Clo.low l from rfl)
  have HI := Lib.hid hI
  generalize Clo.top l = t at *
  generalize Clo.low l = m at *
  clear hI hr h0 hl
  go_enter Try.func21, Try.ntmps21
  go_wp2_with fail
  refine (HMx.out _ HI.out).mono ?_
  rintro e w1 ⟨rfl, rfl⟩
  go_wp2_with fail
  refine (HMn.out _ HI.out).mono ?_
  rintro e w1 ⟨rfl, rfl⟩
  go_wp2_with fail
  go_ret
  exact ⟨by rw [HS.out]; rfl, rfl⟩
end Go.Proofs.Ytljlighgjjiagaa
