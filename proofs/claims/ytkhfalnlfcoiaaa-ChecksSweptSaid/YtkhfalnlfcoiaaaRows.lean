/-
  No cell of these rows narrows 'for every input' (looked for: loops, veiled, ifaces, maps, wideKeys, modest, calm, conditions, laid).
  DERIVED. THE GIVEN ROWS OF THIS SEAT. 7 by the template 'for every input the law returns true; each argument reads behind the call as it read before'; 0 by the template 'total and deterministic' (their statements: YtkhfalnlfcoiaaaTotals.lean).
  GIVEN WITH THE SEED: the statements are not yours to turn. If you find one false, say at which input.
  Laid BY PROGRAM, IN A SANDBOX (cutbox-rows.mjs): the forced cells as the released guide's own fill.sh prints them over the translation 3f6154cca4396ace… (all of the seat's roots in one cut). By AI agents, Wed Nov 11 2026. No macro, syntax, notation, axiom, sorry.
-/
import Derived.Test.YtkhfalnlfcoiaaaChecked
import GoSem.Claim
import GoSem.ClaimJoined
import GoSem.ClaimMapViews
import Derived.JoinedTies
import Derived.KernelRfl
namespace Go.Proofs.Ytkhfalnlfcoiaaa
/- THE CELL 'sum', in the pinned program and in every row, IS THE sha256 OF THE DUMP (.gsa) THAT YtkhfalnlfcoiaaaProg.lean LOADS. Nothing in Lean hashes anything: it is a label: what it is worth is what the hold of that sum in a sandbox is worth. -/
noncomputable def Try.pinned : Pinned := { name := "ytkhfalnlfcoiaaa", sum := "3f6154cca4396ace6526a89b845159d74b5fd341049378c9ce9e3a63ed147ecd", checked := Try.checked }
namespace Rows
def none {H : Type} : Left H := { results := [], args := [] }

/-- 'archipelagolaw02.ChecksOf': WHATEVER THE INPUT: true; the input reads as it did. -/
def checksOfSpec : ChangeSpec := { name := "checksOf", fn := fun _ => fun
  | [d1, d2] => { results := [.lit (.bool true)], args := [d1, d2] }
  | _ => none }
def checksOfRow : OpenClaim := { program := "ytkhfalnlfcoiaaa", sum := "3f6154cca4396ace6526a89b845159d74b5fd341049378c9ce9e3a63ed147ecd", func := "archipelago/archipelagolaw02.ChecksOf", spec := "checksOf", unfollowed := true, recurses := true, apart := false }
def ChecksOfSaid : Prop := checksOfRow.holds Try.pinned (OpenSpec.ofChange checksOfSpec)

/-- ITS FALSE NEIGHBOUR: 'it returns false'. Refute it at one input. -/
def checksOfWrong : ChangeSpec := { name := "checksOf", fn := fun _ => fun
  | [d1, d2] => { results := [.lit (.bool false)], args := [d1, d2] }
  | _ => none }
def ChecksOfWrongFalsely : Prop := checksOfRow.holds Try.pinned (OpenSpec.ofChange checksOfWrong)

/-- 'archipelagolaw02.ChecksLess': WHATEVER THE INPUT: true; the input reads as it did. -/
def checksLessSpec : ChangeSpec := { name := "checksLess", fn := fun _ => fun
  | [d1, d2] => { results := [.lit (.bool true)], args := [d1, d2] }
  | _ => none }
def checksLessRow : OpenClaim := { program := "ytkhfalnlfcoiaaa", sum := "3f6154cca4396ace6526a89b845159d74b5fd341049378c9ce9e3a63ed147ecd", func := "archipelago/archipelagolaw02.ChecksLess", spec := "checksLess", unfollowed := true, recurses := true, apart := false }
def ChecksLessSaid : Prop := checksLessRow.holds Try.pinned (OpenSpec.ofChange checksLessSpec)

/-- ITS FALSE NEIGHBOUR: 'it returns false'. Refute it at one input. -/
def checksLessWrong : ChangeSpec := { name := "checksLess", fn := fun _ => fun
  | [d1, d2] => { results := [.lit (.bool false)], args := [d1, d2] }
  | _ => none }
def ChecksLessWrongFalsely : Prop := checksLessRow.holds Try.pinned (OpenSpec.ofChange checksLessWrong)

/-- 'archipelagolaw02.ChecksJoin': WHATEVER THE INPUT: true; the input reads as it did. -/
def checksJoinSpec : ChangeSpec := { name := "checksJoin", fn := fun _ => fun
  | [d1, d2] => { results := [.lit (.bool true)], args := [d1, d2] }
  | _ => none }
def checksJoinRow : OpenClaim := { program := "ytkhfalnlfcoiaaa", sum := "3f6154cca4396ace6526a89b845159d74b5fd341049378c9ce9e3a63ed147ecd", func := "archipelago/archipelagolaw02.ChecksJoin", spec := "checksJoin", unfollowed := true, recurses := true, apart := false }
def ChecksJoinSaid : Prop := checksJoinRow.holds Try.pinned (OpenSpec.ofChange checksJoinSpec)

/-- ITS FALSE NEIGHBOUR: 'it returns false'. Refute it at one input. -/
def checksJoinWrong : ChangeSpec := { name := "checksJoin", fn := fun _ => fun
  | [d1, d2] => { results := [.lit (.bool false)], args := [d1, d2] }
  | _ => none }
def ChecksJoinWrongFalsely : Prop := checksJoinRow.holds Try.pinned (OpenSpec.ofChange checksJoinWrong)

/-- 'archipelagolaw02.ChecksApart': WHATEVER THE INPUT: true; the input reads as it did. -/
def checksApartSpec : ChangeSpec := { name := "checksApart", fn := fun _ => fun
  | [d1, d2, d3] => { results := [.lit (.bool true)], args := [d1, d2, d3] }
  | _ => none }
def checksApartRow : OpenClaim := { program := "ytkhfalnlfcoiaaa", sum := "3f6154cca4396ace6526a89b845159d74b5fd341049378c9ce9e3a63ed147ecd", func := "archipelago/archipelagolaw02.ChecksApart", spec := "checksApart", unfollowed := true, recurses := true, apart := false }
def ChecksApartSaid : Prop := checksApartRow.holds Try.pinned (OpenSpec.ofChange checksApartSpec)

/-- ITS FALSE NEIGHBOUR: 'it returns false'. Refute it at one input. -/
def checksApartWrong : ChangeSpec := { name := "checksApart", fn := fun _ => fun
  | [d1, d2, d3] => { results := [.lit (.bool false)], args := [d1, d2, d3] }
  | _ => none }
def ChecksApartWrongFalsely : Prop := checksApartRow.holds Try.pinned (OpenSpec.ofChange checksApartWrong)

/-- 'archipelagolaw02.ChecksBack': WHATEVER THE INPUT: true; the input reads as it did. -/
def checksBackSpec : ChangeSpec := { name := "checksBack", fn := fun _ => fun
  | [d1, d2] => { results := [.lit (.bool true)], args := [d1, d2] }
  | _ => none }
def checksBackRow : OpenClaim := { program := "ytkhfalnlfcoiaaa", sum := "3f6154cca4396ace6526a89b845159d74b5fd341049378c9ce9e3a63ed147ecd", func := "archipelago/archipelagolaw02.ChecksBack", spec := "checksBack", unfollowed := true, recurses := true, apart := false }
def ChecksBackSaid : Prop := checksBackRow.holds Try.pinned (OpenSpec.ofChange checksBackSpec)

/-- ITS FALSE NEIGHBOUR: 'it returns false'. Refute it at one input. -/
def checksBackWrong : ChangeSpec := { name := "checksBack", fn := fun _ => fun
  | [d1, d2] => { results := [.lit (.bool false)], args := [d1, d2] }
  | _ => none }
def ChecksBackWrongFalsely : Prop := checksBackRow.holds Try.pinned (OpenSpec.ofChange checksBackWrong)

/-- 'archipelagolaw02.ChecksTurned': WHATEVER THE INPUT: true; the input reads as it did. -/
def checksTurnedSpec : ChangeSpec := { name := "checksTurned", fn := fun _ => fun
  | [d1, d2, d3] => { results := [.lit (.bool true)], args := [d1, d2, d3] }
  | _ => none }
def checksTurnedRow : OpenClaim := { program := "ytkhfalnlfcoiaaa", sum := "3f6154cca4396ace6526a89b845159d74b5fd341049378c9ce9e3a63ed147ecd", func := "archipelago/archipelagolaw02.ChecksTurned", spec := "checksTurned", unfollowed := true, recurses := true, apart := false }
def ChecksTurnedSaid : Prop := checksTurnedRow.holds Try.pinned (OpenSpec.ofChange checksTurnedSpec)

/-- ITS FALSE NEIGHBOUR: 'it returns false'. Refute it at one input. -/
def checksTurnedWrong : ChangeSpec := { name := "checksTurned", fn := fun _ => fun
  | [d1, d2, d3] => { results := [.lit (.bool false)], args := [d1, d2, d3] }
  | _ => none }
def ChecksTurnedWrongFalsely : Prop := checksTurnedRow.holds Try.pinned (OpenSpec.ofChange checksTurnedWrong)

/-- 'archipelagolaw02.ChecksSwept': WHATEVER THE INPUT: true; the input reads as it did. -/
def checksSweptSpec : ChangeSpec := { name := "checksSwept", fn := fun _ => fun
  | [d1, d2, d3] => { results := [.lit (.bool true)], args := [d1, d2, d3] }
  | _ => none }
def checksSweptRow : OpenClaim := { program := "ytkhfalnlfcoiaaa", sum := "3f6154cca4396ace6526a89b845159d74b5fd341049378c9ce9e3a63ed147ecd", func := "archipelago/archipelagolaw02.ChecksSwept", spec := "checksSwept", unfollowed := true, recurses := true, apart := false }
def ChecksSweptSaid : Prop := checksSweptRow.holds Try.pinned (OpenSpec.ofChange checksSweptSpec)

/-- ITS FALSE NEIGHBOUR: 'it returns false'. Refute it at one input. -/
def checksSweptWrong : ChangeSpec := { name := "checksSwept", fn := fun _ => fun
  | [d1, d2, d3] => { results := [.lit (.bool false)], args := [d1, d2, d3] }
  | _ => none }
def ChecksSweptWrongFalsely : Prop := checksSweptRow.holds Try.pinned (OpenSpec.ofChange checksSweptWrong)

/- THE SECOND FORM. 'bulk': how many values and letters a reading holds, each counted each time it is reached (what is shared counts as often as it is met; a slice's spare places count too). A statement '..UptoSaid' is the law's where the arguments, and the package variables that the reading takes, are together of bulk at most 1048576: NARROWER than '..Said'. Prove '..Said' where nothing that the law and all that it calls make is longer than what came in: it says more and counts as full. Else prove '..UptoSaid'. A law counts once. -/
mutual
def uptoBulk {H : Type} : DataW H → Nat
  | .lit (.string bytes) => bytes.length + 1
  | .lit _ => 1
  | .nil => 1
  | .ptr d => uptoBulk d + 1
  | .slice elems spare => uptoBulkAll elems + uptoBulkAll spare + 1
  | .agg parts => uptoBulkAll parts + 1
  | .iface _ d => uptoBulk d + 1
  | .map entries => uptoBulkEntries entries + 1
  | .held _ => 1
def uptoBulkAll {H : Type} : List (DataW H) → Nat
  | [] => 0
  | d :: r => uptoBulk d + uptoBulkAll r
def uptoBulkEntries {H : Type} : List (Lit × DataW H) → Nat
  | [] => 0
  | x :: r => uptoBulkEntry x + uptoBulkEntries r
def uptoBulkEntry {H : Type} : Lit × DataW H → Nat
  | (.string bytes, d) => bytes.length + uptoBulk d + 1
  | (_, d) => uptoBulk d + 1
 end
def uptoSmall : (H : Type) → List (DataW H) → Bool := fun _ ds => decide (uptoBulkAll ds ≤ 1048576)
def OpenSpec.upto (s : _root_.Go.ChangeSpec) : _root_.Go.OpenSpec := { _root_.Go.OpenSpec.ofChange s with cond := some uptoSmall }

/-- 'archipelagolaw02.ChecksOf', WHERE WHAT IT READS IS OF BULK AT MOST 1048576: true; the input reads as it did. -/
def checksOfUptoRow : OpenClaim := { program := "ytkhfalnlfcoiaaa", sum := "3f6154cca4396ace6526a89b845159d74b5fd341049378c9ce9e3a63ed147ecd", func := "archipelago/archipelagolaw02.ChecksOf", spec := "checksOf", unfollowed := true, recurses := true, apart := false, narrowed := true }
def ChecksOfUptoSaid : Prop := checksOfUptoRow.holds Try.pinned (OpenSpec.upto checksOfSpec)

/-- 'archipelagolaw02.ChecksLess', WHERE WHAT IT READS IS OF BULK AT MOST 1048576: true; the input reads as it did. -/
def checksLessUptoRow : OpenClaim := { program := "ytkhfalnlfcoiaaa", sum := "3f6154cca4396ace6526a89b845159d74b5fd341049378c9ce9e3a63ed147ecd", func := "archipelago/archipelagolaw02.ChecksLess", spec := "checksLess", unfollowed := true, recurses := true, apart := false, narrowed := true }
def ChecksLessUptoSaid : Prop := checksLessUptoRow.holds Try.pinned (OpenSpec.upto checksLessSpec)

/-- 'archipelagolaw02.ChecksJoin', WHERE WHAT IT READS IS OF BULK AT MOST 1048576: true; the input reads as it did. -/
def checksJoinUptoRow : OpenClaim := { program := "ytkhfalnlfcoiaaa", sum := "3f6154cca4396ace6526a89b845159d74b5fd341049378c9ce9e3a63ed147ecd", func := "archipelago/archipelagolaw02.ChecksJoin", spec := "checksJoin", unfollowed := true, recurses := true, apart := false, narrowed := true }
def ChecksJoinUptoSaid : Prop := checksJoinUptoRow.holds Try.pinned (OpenSpec.upto checksJoinSpec)

/-- 'archipelagolaw02.ChecksApart', WHERE WHAT IT READS IS OF BULK AT MOST 1048576: true; the input reads as it did. -/
def checksApartUptoRow : OpenClaim := { program := "ytkhfalnlfcoiaaa", sum := "3f6154cca4396ace6526a89b845159d74b5fd341049378c9ce9e3a63ed147ecd", func := "archipelago/archipelagolaw02.ChecksApart", spec := "checksApart", unfollowed := true, recurses := true, apart := false, narrowed := true }
def ChecksApartUptoSaid : Prop := checksApartUptoRow.holds Try.pinned (OpenSpec.upto checksApartSpec)

/-- 'archipelagolaw02.ChecksBack', WHERE WHAT IT READS IS OF BULK AT MOST 1048576: true; the input reads as it did. -/
def checksBackUptoRow : OpenClaim := { program := "ytkhfalnlfcoiaaa", sum := "3f6154cca4396ace6526a89b845159d74b5fd341049378c9ce9e3a63ed147ecd", func := "archipelago/archipelagolaw02.ChecksBack", spec := "checksBack", unfollowed := true, recurses := true, apart := false, narrowed := true }
def ChecksBackUptoSaid : Prop := checksBackUptoRow.holds Try.pinned (OpenSpec.upto checksBackSpec)

/-- 'archipelagolaw02.ChecksTurned', WHERE WHAT IT READS IS OF BULK AT MOST 1048576: true; the input reads as it did. -/
def checksTurnedUptoRow : OpenClaim := { program := "ytkhfalnlfcoiaaa", sum := "3f6154cca4396ace6526a89b845159d74b5fd341049378c9ce9e3a63ed147ecd", func := "archipelago/archipelagolaw02.ChecksTurned", spec := "checksTurned", unfollowed := true, recurses := true, apart := false, narrowed := true }
def ChecksTurnedUptoSaid : Prop := checksTurnedUptoRow.holds Try.pinned (OpenSpec.upto checksTurnedSpec)

/-- 'archipelagolaw02.ChecksSwept', WHERE WHAT IT READS IS OF BULK AT MOST 1048576: true; the input reads as it did. -/
def checksSweptUptoRow : OpenClaim := { program := "ytkhfalnlfcoiaaa", sum := "3f6154cca4396ace6526a89b845159d74b5fd341049378c9ce9e3a63ed147ecd", func := "archipelago/archipelagolaw02.ChecksSwept", spec := "checksSwept", unfollowed := true, recurses := true, apart := false, narrowed := true }
def ChecksSweptUptoSaid : Prop := checksSweptUptoRow.holds Try.pinned (OpenSpec.upto checksSweptSpec)

end Rows
end Go.Proofs.Ytkhfalnlfcoiaaa
