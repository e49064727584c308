/-
  SameInts at two slices that read alike; and what the law makes of a list: its ints, and one more behind them.
-/
import Derived.Test.YtmdchepmojlbbaaEWorks
namespace Go.Proofs.Ytmdchepmojlbbaa
open Go.RowKit
set_option maxRecDepth 100000 in
set_option maxHeartbeats 1000000 in
theorem same_any (va vb : Value) (l : List Int) (w : World) (ha : Ints w va l) (hb : Ints w vb l) (hl : l.length ≤ 1000000) :
    Calls Try.prog 18 #[va, vb] w fun e w' => e = .returned (.bool true) ∧ Below w.heap.size w w' := by
  obtain ⟨A, ca, rfl, hca, _, _, hA⟩ := ha
  obtain ⟨A', cb, rfl, hcb, _, _, hA'⟩ := hb
  have HA := Lib.hid hA
  have HB := Lib.hid hA'
  clear hA hA'
  go_enter Try.func18, Try.ntmps18
  go_wp2
  go_loopw [5] (fun i wr => ∃ k : Nat, k ≤ l.length ∧ i = .int .i64 k ∧ Below w.heap.size w wr) (fun i _ => l.length - (intOf i).toNat)
  case atStart => exact ⟨0, Nat.zero_le _, rfl, Below.refl _ _⟩
  case round =>
    obtain ⟨k, hk, rfl, hst⟩ := hrel
    by_cases hlt : k < l.length
    · obtain ⟨b1, o1, rfl, hb1, c1⟩ := HA.out (by omega)
      obtain ⟨b2, o2, rfl, hb2, c2⟩ := HB.out (by omega)
      have d1 := (hst.cell (p := ⟨b1, o1 + k, none⟩) hb1).trans (c1 k hlt)
      have d2 := (hst.cell (p := ⟨b2, o2 + k, none⟩) hb2).trans (c2 k hlt)
      clear c1 c2
      generalize l.getD k 0 = n at *
      go_wp2
      go_quiet (fail)
      go_wp2
      go_roundw
      case rel => exact ⟨k + 1, by omega, by go_num, same_drewN hst _⟩
      case measure => simp [intOf]; omega
    · go_wp2
      go_ret
      exact ⟨rfl, hst⟩
end Go.Proofs.Ytmdchepmojlbbaa
