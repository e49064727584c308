/-
  Arrays of ints that are handed in.
-/
import Derived.Test.YtmdchepmojlbbaaEInts
namespace Go.Proofs.Ytmdchepmojlbbaa
open Go.ChangeShapes Go.WideShapes Go.ChangeAt Go.RowKit
theorem okWide_array {P : Program} {w : World} {r : Reach} {base n : Nat} {t e : TypeId} {v : Value} (ht : P.underlying t = some (.array n e)) (h : Value.okWide P w r base t v) : ∃ cs, v = .agg cs ∧ cs.size = P.cellsOf t := by
  simp only [Value.okWide, ht] at h
  obtain ⟨cs, h1, h2, _⟩ := h
  exact ⟨cs, h1, h2⟩
theorem cellsPair : Try.prog.cellsOf 37 = 2 := by kernel_rfl
theorem cellsSeven : Try.prog.cellsOf 39 = 7 := by kernel_rfl
theorem one_int {H : Type} {enc : TypeId × Value → H} {w : World} {sp : Nat → Bool} {fuel : Nat} {c : Value} {y : DataW H × List MemPlace} (h : DataW.trod enc Try.prog w 0 sp true fuel 3 [c] = some y) : ∃ n, c = .int .i64 n := by
  obtain ⟨n, e, _, _⟩ := DataW.trod_int Try.underlying3 h
  injection e with e
  exact ⟨n, e⟩
theorem open_pair {H : Type} {enc : TypeId × Value → H} {w : World} {sp : Nat → Bool} {fuel : Nat} {cs : List Value} {y : DataW H × List MemPlace} (h : DataW.trod enc Try.prog w 0 sp true fuel 37 cs = some y) :
    ∃ a b, cs = [.int .i64 a, .int .i64 b] := by
  obtain ⟨xs, m, _, _, hl, hlen, hf⟩ := DataW.trod_array Try.underlying37 h
  rw [cellsPair] at hl
  match cs, hl with
  | [c0, c1], _ =>
    match xs, hlen with
    | [y0, y1], _ =>
      have g0 := hf 0 (by decide)
      have g1 := hf 1 (by decide)
      rw [cellsInt] at g0 g1
      obtain ⟨a, rfl⟩ := one_int g0
      obtain ⟨b, rfl⟩ := one_int g1
      exact ⟨a, b, rfl⟩
theorem open_seven {H : Type} {enc : TypeId × Value → H} {w : World} {sp : Nat → Bool} {fuel : Nat} {cs : List Value} {y : DataW H × List MemPlace} (h : DataW.trod enc Try.prog w 0 sp true fuel 39 cs = some y) :
    ∃ a b c d e f g, cs = [.int .i64 a, .int .i64 b, .int .i64 c, .int .i64 d, .int .i64 e, .int .i64 f, .int .i64 g] := by
  obtain ⟨xs, m, _, _, hl, hlen, hf⟩ := DataW.trod_array Try.underlying39 h
  rw [cellsSeven] at hl
  match cs, hl with
  | [c0, c1, c2, c3, c4, c5, c6], _ =>
    match xs, hlen with
    | [y0, y1, y2, y3, y4, y5, y6], _ =>
      have g0 := hf 0 (by decide)
      have g1 := hf 1 (by decide)
      have g2 := hf 2 (by decide)
      have g3 := hf 3 (by decide)
      have g4 := hf 4 (by decide)
      have g5 := hf 5 (by decide)
      have g6 := hf 6 (by decide)
      rw [cellsInt] at g0 g1 g2 g3 g4 g5 g6
      obtain ⟨a, rfl⟩ := one_int g0
      obtain ⟨b, rfl⟩ := one_int g1
      obtain ⟨c, rfl⟩ := one_int g2
      obtain ⟨d, rfl⟩ := one_int g3
      obtain ⟨e, rfl⟩ := one_int g4
      obtain ⟨f, rfl⟩ := one_int g5
      obtain ⟨g, rfl⟩ := one_int g6
      exact ⟨a, b, c, d, e, f, g, rfl⟩
end Go.Proofs.Ytmdchepmojlbbaa
