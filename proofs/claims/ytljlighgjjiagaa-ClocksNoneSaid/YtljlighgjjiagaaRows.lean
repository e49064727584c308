/-
  No cell of these rows narrows 'for every input' (looked for: loops, veiled, ifaces, maps, wideKeys, modest, calm, conditions, laid).
  DERIVED. THE GIVEN ROWS OF THIS SEAT. 5 by the template 'for every input the law returns true; each argument reads behind the call as it read before'; 0 by the template 'total and deterministic' (their statements: YtljlighgjjiagaaTotals.lean).
  GIVEN WITH THE SEED: the statements are not yours to turn. If you find one false, say at which input.
  Laid BY PROGRAM, IN A SANDBOX (cutbox-rows.mjs): the forced cells as the released guide's own fill.sh prints them over the translation 0d6459a00397afa5… (all of the seat's roots in one cut). By AI agents, Wed Nov 11 2026. No macro, syntax, notation, axiom, sorry.
-/
import Derived.Test.YtljlighgjjiagaaChecked
import GoSem.Claim
import GoSem.ClaimJoined
import GoSem.ClaimMapViews
import Derived.JoinedTies
import Derived.KernelRfl
namespace Go.Proofs.Ytljlighgjjiagaa
/- THE CELL 'sum', in the pinned program and in every row, IS THE sha256 OF THE DUMP (.gsa) THAT YtljlighgjjiagaaProg.lean LOADS. Nothing in Lean hashes anything: it is a label: what it is worth is what the hold of that sum in a sandbox is worth. -/
noncomputable def Try.pinned : Pinned := { name := "ytljlighgjjiagaa", sum := "0d6459a00397afa56942ce1d920a8f0dea529e195b4ae64c01cd51e4b313e9b9", checked := Try.checked }
namespace Rows
def none {H : Type} : Left H := { results := [], args := [] }

/-- 'archipelagolaw07.ClocksPlay': WHATEVER THE INPUT: true; the input reads as it did. -/
def clocksPlaySpec : ChangeSpec := { name := "clocksPlay", fn := fun _ => fun
  | [d1, d2] => { results := [.lit (.bool true)], args := [d1, d2] }
  | _ => none }
def clocksPlayRow : OpenClaim := { program := "ytljlighgjjiagaa", sum := "0d6459a00397afa56942ce1d920a8f0dea529e195b4ae64c01cd51e4b313e9b9", func := "archipelago/archipelagolaw07.ClocksPlay", spec := "clocksPlay", apart := false }
def ClocksPlaySaid : Prop := clocksPlayRow.holds Try.pinned (OpenSpec.ofChange clocksPlaySpec)

/-- ITS FALSE NEIGHBOUR: 'it returns false'. Refute it at one input. -/
def clocksPlayWrong : ChangeSpec := { name := "clocksPlay", fn := fun _ => fun
  | [d1, d2] => { results := [.lit (.bool false)], args := [d1, d2] }
  | _ => none }
def ClocksPlayWrongFalsely : Prop := clocksPlayRow.holds Try.pinned (OpenSpec.ofChange clocksPlayWrong)

/-- 'archipelagolaw07.ClocksNone': WHATEVER THE INPUT: true; the input reads as it did. -/
def clocksNoneSpec : ChangeSpec := { name := "clocksNone", fn := fun _ => fun
  | [d] => { results := [.lit (.bool true)], args := [d] }
  | _ => none }
def clocksNoneRow : OpenClaim := { program := "ytljlighgjjiagaa", sum := "0d6459a00397afa56942ce1d920a8f0dea529e195b4ae64c01cd51e4b313e9b9", func := "archipelago/archipelagolaw07.ClocksNone", spec := "clocksNone", apart := false }
def ClocksNoneSaid : Prop := clocksNoneRow.holds Try.pinned (OpenSpec.ofChange clocksNoneSpec)

/-- ITS FALSE NEIGHBOUR: 'it returns false'. Refute it at one input. -/
def clocksNoneWrong : ChangeSpec := { name := "clocksNone", fn := fun _ => fun
  | [d] => { results := [.lit (.bool false)], args := [d] }
  | _ => none }
def ClocksNoneWrongFalsely : Prop := clocksNoneRow.holds Try.pinned (OpenSpec.ofChange clocksNoneWrong)

/-- 'archipelagolaw07.ClocksOne': WHATEVER THE INPUT: true; the input reads as it did. -/
def clocksOneSpec : ChangeSpec := { name := "clocksOne", fn := fun _ => fun
  | [d1, d2] => { results := [.lit (.bool true)], args := [d1, d2] }
  | _ => none }
def clocksOneRow : OpenClaim := { program := "ytljlighgjjiagaa", sum := "0d6459a00397afa56942ce1d920a8f0dea529e195b4ae64c01cd51e4b313e9b9", func := "archipelago/archipelagolaw07.ClocksOne", spec := "clocksOne", apart := false }
def ClocksOneSaid : Prop := clocksOneRow.holds Try.pinned (OpenSpec.ofChange clocksOneSpec)

/-- ITS FALSE NEIGHBOUR: 'it returns false'. Refute it at one input. -/
def clocksOneWrong : ChangeSpec := { name := "clocksOne", fn := fun _ => fun
  | [d1, d2] => { results := [.lit (.bool false)], args := [d1, d2] }
  | _ => none }
def ClocksOneWrongFalsely : Prop := clocksOneRow.holds Try.pinned (OpenSpec.ofChange clocksOneWrong)

/-- 'archipelagolaw07.ClocksSkew': WHATEVER THE INPUT: true; the input reads as it did. -/
def clocksSkewSpec : ChangeSpec := { name := "clocksSkew", fn := fun _ => fun
  | [d1, d2] => { results := [.lit (.bool true)], args := [d1, d2] }
  | _ => none }
def clocksSkewRow : OpenClaim := { program := "ytljlighgjjiagaa", sum := "0d6459a00397afa56942ce1d920a8f0dea529e195b4ae64c01cd51e4b313e9b9", func := "archipelago/archipelagolaw07.ClocksSkew", spec := "clocksSkew", apart := false }
def ClocksSkewSaid : Prop := clocksSkewRow.holds Try.pinned (OpenSpec.ofChange clocksSkewSpec)

/-- ITS FALSE NEIGHBOUR: 'it returns false'. Refute it at one input. -/
def clocksSkewWrong : ChangeSpec := { name := "clocksSkew", fn := fun _ => fun
  | [d1, d2] => { results := [.lit (.bool false)], args := [d1, d2] }
  | _ => none }
def ClocksSkewWrongFalsely : Prop := clocksSkewRow.holds Try.pinned (OpenSpec.ofChange clocksSkewWrong)

/-- 'archipelagolaw07.ClocksRound': WHATEVER THE INPUT: true; the input reads as it did. -/
def clocksRoundSpec : ChangeSpec := { name := "clocksRound", fn := fun _ => fun
  | [d1, d2] => { results := [.lit (.bool true)], args := [d1, d2] }
  | _ => none }
def clocksRoundRow : OpenClaim := { program := "ytljlighgjjiagaa", sum := "0d6459a00397afa56942ce1d920a8f0dea529e195b4ae64c01cd51e4b313e9b9", func := "archipelago/archipelagolaw07.ClocksRound", spec := "clocksRound", apart := false }
def ClocksRoundSaid : Prop := clocksRoundRow.holds Try.pinned (OpenSpec.ofChange clocksRoundSpec)

/-- ITS FALSE NEIGHBOUR: 'it returns false'. Refute it at one input. -/
def clocksRoundWrong : ChangeSpec := { name := "clocksRound", fn := fun _ => fun
  | [d1, d2] => { results := [.lit (.bool false)], args := [d1, d2] }
  | _ => none }
def ClocksRoundWrongFalsely : Prop := clocksRoundRow.holds Try.pinned (OpenSpec.ofChange clocksRoundWrong)

/- THE SECOND FORM. 'bulk': how many values and letters a reading holds, each counted each time it is reached (what is shared counts as often as it is met; a slice's spare places count too). A statement '..UptoSaid' is the law's where the arguments, and the package variables that the reading takes, are together of bulk at most 1048576: NARROWER than '..Said'. Prove '..Said' where nothing that the law and all that it calls make is longer than what came in: it says more and counts as full. Else prove '..UptoSaid'. A law counts once. -/
mutual
def uptoBulk {H : Type} : DataW H → Nat
  | .lit (.string bytes) => bytes.length + 1
  | .lit _ => 1
  | .nil => 1
  | .ptr d => uptoBulk d + 1
  | .slice elems spare => uptoBulkAll elems + uptoBulkAll spare + 1
  | .agg parts => uptoBulkAll parts + 1
  | .iface _ d => uptoBulk d + 1
  | .map entries => uptoBulkEntries entries + 1
  | .held _ => 1
def uptoBulkAll {H : Type} : List (DataW H) → Nat
  | [] => 0
  | d :: r => uptoBulk d + uptoBulkAll r
def uptoBulkEntries {H : Type} : List (Lit × DataW H) → Nat
  | [] => 0
  | x :: r => uptoBulkEntry x + uptoBulkEntries r
def uptoBulkEntry {H : Type} : Lit × DataW H → Nat
  | (.string bytes, d) => bytes.length + uptoBulk d + 1
  | (_, d) => uptoBulk d + 1
 end
def uptoSmall : (H : Type) → List (DataW H) → Bool := fun _ ds => decide (uptoBulkAll ds ≤ 1048576)
def OpenSpec.upto (s : _root_.Go.ChangeSpec) : _root_.Go.OpenSpec := { _root_.Go.OpenSpec.ofChange s with cond := some uptoSmall }

/-- 'archipelagolaw07.ClocksPlay', WHERE WHAT IT READS IS OF BULK AT MOST 1048576: true; the input reads as it did. -/
def clocksPlayUptoRow : OpenClaim := { program := "ytljlighgjjiagaa", sum := "0d6459a00397afa56942ce1d920a8f0dea529e195b4ae64c01cd51e4b313e9b9", func := "archipelago/archipelagolaw07.ClocksPlay", spec := "clocksPlay", apart := false, narrowed := true }
def ClocksPlayUptoSaid : Prop := clocksPlayUptoRow.holds Try.pinned (OpenSpec.upto clocksPlaySpec)

/-- 'archipelagolaw07.ClocksNone', WHERE WHAT IT READS IS OF BULK AT MOST 1048576: true; the input reads as it did. -/
def clocksNoneUptoRow : OpenClaim := { program := "ytljlighgjjiagaa", sum := "0d6459a00397afa56942ce1d920a8f0dea529e195b4ae64c01cd51e4b313e9b9", func := "archipelago/archipelagolaw07.ClocksNone", spec := "clocksNone", apart := false, narrowed := true }
def ClocksNoneUptoSaid : Prop := clocksNoneUptoRow.holds Try.pinned (OpenSpec.upto clocksNoneSpec)

/-- 'archipelagolaw07.ClocksOne', WHERE WHAT IT READS IS OF BULK AT MOST 1048576: true; the input reads as it did. -/
def clocksOneUptoRow : OpenClaim := { program := "ytljlighgjjiagaa", sum := "0d6459a00397afa56942ce1d920a8f0dea529e195b4ae64c01cd51e4b313e9b9", func := "archipelago/archipelagolaw07.ClocksOne", spec := "clocksOne", apart := false, narrowed := true }
def ClocksOneUptoSaid : Prop := clocksOneUptoRow.holds Try.pinned (OpenSpec.upto clocksOneSpec)

/-- 'archipelagolaw07.ClocksSkew', WHERE WHAT IT READS IS OF BULK AT MOST 1048576: true; the input reads as it did. -/
def clocksSkewUptoRow : OpenClaim := { program := "ytljlighgjjiagaa", sum := "0d6459a00397afa56942ce1d920a8f0dea529e195b4ae64c01cd51e4b313e9b9", func := "archipelago/archipelagolaw07.ClocksSkew", spec := "clocksSkew", apart := false, narrowed := true }
def ClocksSkewUptoSaid : Prop := clocksSkewUptoRow.holds Try.pinned (OpenSpec.upto clocksSkewSpec)

/-- 'archipelagolaw07.ClocksRound', WHERE WHAT IT READS IS OF BULK AT MOST 1048576: true; the input reads as it did. -/
def clocksRoundUptoRow : OpenClaim := { program := "ytljlighgjjiagaa", sum := "0d6459a00397afa56942ce1d920a8f0dea529e195b4ae64c01cd51e4b313e9b9", func := "archipelago/archipelagolaw07.ClocksRound", spec := "clocksRound", apart := false, narrowed := true }
def ClocksRoundUptoSaid : Prop := clocksRoundUptoRow.holds Try.pinned (OpenSpec.upto clocksRoundSpec)

end Rows
end Go.Proofs.Ytljlighgjjiagaa
