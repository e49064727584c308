/-
  No cell of these rows narrows 'for every input' (looked for: loops, veiled, ifaces, maps, wideKeys, modest, calm, conditions, laid).
  DERIVED. THE GIVEN ROWS OF THIS SEAT. 3 by the template 'for every input the law returns true; each argument reads behind the call as it read before'; 0 by the template 'total and deterministic' (their statements: YtopdjmjlnflhfaaTotals.lean).
  GIVEN WITH THE SEED: the statements are not yours to turn. If you find one false, say at which input.
  Laid BY PROGRAM, IN A SANDBOX (cutbox-rows.mjs): the forced cells as the released guide's own fill.sh prints them over the translation db68c0d370441f96… (all of the seat's roots in one cut). By AI agents, Wed Nov 11 2026. No macro, syntax, notation, axiom, sorry.
-/
import Derived.Test.YtopdjmjlnflhfaaChecked
import GoSem.Claim
import GoSem.ClaimJoined
import GoSem.ClaimMapViews
import Derived.JoinedTies
import Derived.KernelRfl
namespace Go.Proofs.Ytopdjmjlnflhfaa
/- THE CELL 'sum', in the pinned program and in every row, IS THE sha256 OF THE DUMP (.gsa) THAT YtopdjmjlnflhfaaProg.lean LOADS. Nothing in Lean hashes anything: it is a label: what it is worth is what the hold of that sum in a sandbox is worth. -/
noncomputable def Try.pinned : Pinned := { name := "ytopdjmjlnflhfaa", sum := "db68c0d370441f96f89be72066c385975d7d24e8c30ced8b4f2e4d67870eabde", checked := Try.checked }
namespace Rows
def none {H : Type} : Left H := { results := [], args := [] }

/-- 'archipelagolaw17.LeasesNone': WHATEVER THE INPUT: true; the input reads as it did. -/
def leasesNoneSpec : ChangeSpec := { name := "leasesNone", fn := fun _ => fun
  | [d1, d2, d3] => { results := [.lit (.bool true)], args := [d1, d2, d3] }
  | _ => none }
def leasesNoneRow : OpenClaim := { program := "ytopdjmjlnflhfaa", sum := "db68c0d370441f96f89be72066c385975d7d24e8c30ced8b4f2e4d67870eabde", func := "archipelago/archipelagolaw17.LeasesNone", spec := "leasesNone", apart := false }
def LeasesNoneSaid : Prop := leasesNoneRow.holds Try.pinned (OpenSpec.ofChange leasesNoneSpec)

/-- ITS FALSE NEIGHBOUR: 'it returns false'. Refute it at one input. -/
def leasesNoneWrong : ChangeSpec := { name := "leasesNone", fn := fun _ => fun
  | [d1, d2, d3] => { results := [.lit (.bool false)], args := [d1, d2, d3] }
  | _ => none }
def LeasesNoneWrongFalsely : Prop := leasesNoneRow.holds Try.pinned (OpenSpec.ofChange leasesNoneWrong)

/-- 'archipelagolaw17.LeasesGrace': WHATEVER THE INPUT: true; the input reads as it did. -/
def leasesGraceSpec : ChangeSpec := { name := "leasesGrace", fn := fun _ => fun
  | [d1, d2] => { results := [.lit (.bool true)], args := [d1, d2] }
  | _ => none }
def leasesGraceRow : OpenClaim := { program := "ytopdjmjlnflhfaa", sum := "db68c0d370441f96f89be72066c385975d7d24e8c30ced8b4f2e4d67870eabde", func := "archipelago/archipelagolaw17.LeasesGrace", spec := "leasesGrace", apart := false }
def LeasesGraceSaid : Prop := leasesGraceRow.holds Try.pinned (OpenSpec.ofChange leasesGraceSpec)

/-- ITS FALSE NEIGHBOUR: 'it returns false'. Refute it at one input. -/
def leasesGraceWrong : ChangeSpec := { name := "leasesGrace", fn := fun _ => fun
  | [d1, d2] => { results := [.lit (.bool false)], args := [d1, d2] }
  | _ => none }
def LeasesGraceWrongFalsely : Prop := leasesGraceRow.holds Try.pinned (OpenSpec.ofChange leasesGraceWrong)

/-- 'archipelagolaw17.LeasesApart': WHATEVER THE INPUT: true; the input reads as it did. -/
def leasesApartSpec : ChangeSpec := { name := "leasesApart", fn := fun _ => fun
  | [d1, d2, d3] => { results := [.lit (.bool true)], args := [d1, d2, d3] }
  | _ => none }
def leasesApartRow : OpenClaim := { program := "ytopdjmjlnflhfaa", sum := "db68c0d370441f96f89be72066c385975d7d24e8c30ced8b4f2e4d67870eabde", func := "archipelago/archipelagolaw17.LeasesApart", spec := "leasesApart", apart := false }
def LeasesApartSaid : Prop := leasesApartRow.holds Try.pinned (OpenSpec.ofChange leasesApartSpec)

/-- ITS FALSE NEIGHBOUR: 'it returns false'. Refute it at one input. -/
def leasesApartWrong : ChangeSpec := { name := "leasesApart", fn := fun _ => fun
  | [d1, d2, d3] => { results := [.lit (.bool false)], args := [d1, d2, d3] }
  | _ => none }
def LeasesApartWrongFalsely : Prop := leasesApartRow.holds Try.pinned (OpenSpec.ofChange leasesApartWrong)

/- THE SECOND FORM. 'bulk': how many values and letters a reading holds, each counted each time it is reached (what is shared counts as often as it is met; a slice's spare places count too). A statement '..UptoSaid' is the law's where the arguments, and the package variables that the reading takes, are together of bulk at most 1048576: NARROWER than '..Said'. Prove '..Said' where nothing that the law and all that it calls make is longer than what came in: it says more and counts as full. Else prove '..UptoSaid'. A law counts once. -/
mutual
def uptoBulk {H : Type} : DataW H → Nat
  | .lit (.string bytes) => bytes.length + 1
  | .lit _ => 1
  | .nil => 1
  | .ptr d => uptoBulk d + 1
  | .slice elems spare => uptoBulkAll elems + uptoBulkAll spare + 1
  | .agg parts => uptoBulkAll parts + 1
  | .iface _ d => uptoBulk d + 1
  | .map entries => uptoBulkEntries entries + 1
  | .held _ => 1
def uptoBulkAll {H : Type} : List (DataW H) → Nat
  | [] => 0
  | d :: r => uptoBulk d + uptoBulkAll r
def uptoBulkEntries {H : Type} : List (Lit × DataW H) → Nat
  | [] => 0
  | x :: r => uptoBulkEntry x + uptoBulkEntries r
def uptoBulkEntry {H : Type} : Lit × DataW H → Nat
  | (.string bytes, d) => bytes.length + uptoBulk d + 1
  | (_, d) => uptoBulk d + 1
 end
def uptoSmall : (H : Type) → List (DataW H) → Bool := fun _ ds => decide (uptoBulkAll ds ≤ 1048576)
def OpenSpec.upto (s : _root_.Go.ChangeSpec) : _root_.Go.OpenSpec := { _root_.Go.OpenSpec.ofChange s with cond := some uptoSmall }

/-- 'archipelagolaw17.LeasesNone', WHERE WHAT IT READS IS OF BULK AT MOST 1048576: true; the input reads as it did. -/
def leasesNoneUptoRow : OpenClaim := { program := "ytopdjmjlnflhfaa", sum := "db68c0d370441f96f89be72066c385975d7d24e8c30ced8b4f2e4d67870eabde", func := "archipelago/archipelagolaw17.LeasesNone", spec := "leasesNone", apart := false, narrowed := true }
def LeasesNoneUptoSaid : Prop := leasesNoneUptoRow.holds Try.pinned (OpenSpec.upto leasesNoneSpec)

/-- 'archipelagolaw17.LeasesGrace', WHERE WHAT IT READS IS OF BULK AT MOST 1048576: true; the input reads as it did. -/
def leasesGraceUptoRow : OpenClaim := { program := "ytopdjmjlnflhfaa", sum := "db68c0d370441f96f89be72066c385975d7d24e8c30ced8b4f2e4d67870eabde", func := "archipelago/archipelagolaw17.LeasesGrace", spec := "leasesGrace", apart := false, narrowed := true }
def LeasesGraceUptoSaid : Prop := leasesGraceUptoRow.holds Try.pinned (OpenSpec.upto leasesGraceSpec)

/-- 'archipelagolaw17.LeasesApart', WHERE WHAT IT READS IS OF BULK AT MOST 1048576: true; the input reads as it did. -/
def leasesApartUptoRow : OpenClaim := { program := "ytopdjmjlnflhfaa", sum := "db68c0d370441f96f89be72066c385975d7d24e8c30ced8b4f2e4d67870eabde", func := "archipelago/archipelagolaw17.LeasesApart", spec := "leasesApart", apart := false, narrowed := true }
def LeasesApartUptoSaid : Prop := leasesApartUptoRow.holds Try.pinned (OpenSpec.upto leasesApartSpec)

end Rows
end Go.Proofs.Ytopdjmjlnflhfaa
