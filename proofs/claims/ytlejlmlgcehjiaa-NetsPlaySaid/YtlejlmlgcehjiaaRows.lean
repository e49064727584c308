/-
  No cell of these rows narrows 'for every input' (looked for: loops, veiled, ifaces, maps, wideKeys, modest, calm, conditions, laid).
  DERIVED. THE GIVEN ROWS OF THIS SEAT. 6 by the template 'for every input the law returns true; each argument reads behind the call as it read before'; 0 by the template 'total and deterministic' (their statements: YtlejlmlgcehjiaaTotals.lean).
  GIVEN WITH THE SEED: the statements are not yours to turn. If you find one false, say at which input.
  Laid BY PROGRAM, IN A SANDBOX (cutbox-rows.mjs): the forced cells as the released guide's own fill.sh prints them over the translation 4ab6e763ef805d08… (all of the seat's roots in one cut). By AI agents, Wed Nov 11 2026. No macro, syntax, notation, axiom, sorry.
-/
import Derived.Test.YtlejlmlgcehjiaaChecked
import GoSem.Claim
import GoSem.ClaimJoined
import GoSem.ClaimMapViews
import Derived.JoinedTies
import Derived.KernelRfl
namespace Go.Proofs.Ytlejlmlgcehjiaa
/- THE CELL 'sum', in the pinned program and in every row, IS THE sha256 OF THE DUMP (.gsa) THAT YtlejlmlgcehjiaaProg.lean LOADS. Nothing in Lean hashes anything: it is a label: what it is worth is what the hold of that sum in a sandbox is worth. -/
noncomputable def Try.pinned : Pinned := { name := "ytlejlmlgcehjiaa", sum := "4ab6e763ef805d0860641c2bedfe6cc2abb4b3d084c023f782d118bb36e56ee5", checked := Try.checked }
namespace Rows
def none {H : Type} : Left H := { results := [], args := [] }

/-- 'archipelagolaw08.NetsPlay': WHATEVER THE INPUT: true; the input reads as it did. -/
def netsPlaySpec : ChangeSpec := { name := "netsPlay", fn := fun _ => fun
  | [d] => { results := [.lit (.bool true)], args := [d] }
  | _ => none }
def netsPlayRow : OpenClaim := { program := "ytlejlmlgcehjiaa", sum := "4ab6e763ef805d0860641c2bedfe6cc2abb4b3d084c023f782d118bb36e56ee5", func := "archipelago/archipelagolaw08.NetsPlay", spec := "netsPlay", unfollowed := true, recurses := true, apart := false }
def NetsPlaySaid : Prop := netsPlayRow.holds Try.pinned (OpenSpec.ofChange netsPlaySpec)

/-- ITS FALSE NEIGHBOUR: 'it returns false'. Refute it at one input. -/
def netsPlayWrong : ChangeSpec := { name := "netsPlay", fn := fun _ => fun
  | [d] => { results := [.lit (.bool false)], args := [d] }
  | _ => none }
def NetsPlayWrongFalsely : Prop := netsPlayRow.holds Try.pinned (OpenSpec.ofChange netsPlayWrong)

/-- 'archipelagolaw08.NetsNone': WHATEVER THE INPUT: true; the input reads as it did. -/
def netsNoneSpec : ChangeSpec := { name := "netsNone", fn := fun _ => fun
  | [d] => { results := [.lit (.bool true)], args := [d] }
  | _ => none }
def netsNoneRow : OpenClaim := { program := "ytlejlmlgcehjiaa", sum := "4ab6e763ef805d0860641c2bedfe6cc2abb4b3d084c023f782d118bb36e56ee5", func := "archipelago/archipelagolaw08.NetsNone", spec := "netsNone", unfollowed := true, recurses := true, apart := false }
def NetsNoneSaid : Prop := netsNoneRow.holds Try.pinned (OpenSpec.ofChange netsNoneSpec)

/-- ITS FALSE NEIGHBOUR: 'it returns false'. Refute it at one input. -/
def netsNoneWrong : ChangeSpec := { name := "netsNone", fn := fun _ => fun
  | [d] => { results := [.lit (.bool false)], args := [d] }
  | _ => none }
def NetsNoneWrongFalsely : Prop := netsNoneRow.holds Try.pinned (OpenSpec.ofChange netsNoneWrong)

/-- 'archipelagolaw08.NetsOrder': WHATEVER THE INPUT: true; the input reads as it did. -/
def netsOrderSpec : ChangeSpec := { name := "netsOrder", fn := fun _ => fun
  | [d] => { results := [.lit (.bool true)], args := [d] }
  | _ => none }
def netsOrderRow : OpenClaim := { program := "ytlejlmlgcehjiaa", sum := "4ab6e763ef805d0860641c2bedfe6cc2abb4b3d084c023f782d118bb36e56ee5", func := "archipelago/archipelagolaw08.NetsOrder", spec := "netsOrder", unfollowed := true, recurses := true, apart := false }
def NetsOrderSaid : Prop := netsOrderRow.holds Try.pinned (OpenSpec.ofChange netsOrderSpec)

/-- ITS FALSE NEIGHBOUR: 'it returns false'. Refute it at one input. -/
def netsOrderWrong : ChangeSpec := { name := "netsOrder", fn := fun _ => fun
  | [d] => { results := [.lit (.bool false)], args := [d] }
  | _ => none }
def NetsOrderWrongFalsely : Prop := netsOrderRow.holds Try.pinned (OpenSpec.ofChange netsOrderWrong)

/-- 'archipelagolaw08.NetsCount': WHATEVER THE INPUT: true; the input reads as it did. -/
def netsCountSpec : ChangeSpec := { name := "netsCount", fn := fun _ => fun
  | [d] => { results := [.lit (.bool true)], args := [d] }
  | _ => none }
def netsCountRow : OpenClaim := { program := "ytlejlmlgcehjiaa", sum := "4ab6e763ef805d0860641c2bedfe6cc2abb4b3d084c023f782d118bb36e56ee5", func := "archipelago/archipelagolaw08.NetsCount", spec := "netsCount", unfollowed := true, recurses := true, apart := false }
def NetsCountSaid : Prop := netsCountRow.holds Try.pinned (OpenSpec.ofChange netsCountSpec)

/-- ITS FALSE NEIGHBOUR: 'it returns false'. Refute it at one input. -/
def netsCountWrong : ChangeSpec := { name := "netsCount", fn := fun _ => fun
  | [d] => { results := [.lit (.bool false)], args := [d] }
  | _ => none }
def NetsCountWrongFalsely : Prop := netsCountRow.holds Try.pinned (OpenSpec.ofChange netsCountWrong)

/-- 'archipelagolaw08.NetsFull': WHATEVER THE INPUT: true; the input reads as it did. -/
def netsFullSpec : ChangeSpec := { name := "netsFull", fn := fun _ => fun
  | [d1, d2] => { results := [.lit (.bool true)], args := [d1, d2] }
  | _ => none }
def netsFullRow : OpenClaim := { program := "ytlejlmlgcehjiaa", sum := "4ab6e763ef805d0860641c2bedfe6cc2abb4b3d084c023f782d118bb36e56ee5", func := "archipelago/archipelagolaw08.NetsFull", spec := "netsFull", unfollowed := true, recurses := true, apart := false }
def NetsFullSaid : Prop := netsFullRow.holds Try.pinned (OpenSpec.ofChange netsFullSpec)

/-- ITS FALSE NEIGHBOUR: 'it returns false'. Refute it at one input. -/
def netsFullWrong : ChangeSpec := { name := "netsFull", fn := fun _ => fun
  | [d1, d2] => { results := [.lit (.bool false)], args := [d1, d2] }
  | _ => none }
def NetsFullWrongFalsely : Prop := netsFullRow.holds Try.pinned (OpenSpec.ofChange netsFullWrong)

/-- 'archipelagolaw08.NetsCopy': WHATEVER THE INPUT: true; the input reads as it did. -/
def netsCopySpec : ChangeSpec := { name := "netsCopy", fn := fun _ => fun
  | [d1, d2] => { results := [.lit (.bool true)], args := [d1, d2] }
  | _ => none }
def netsCopyRow : OpenClaim := { program := "ytlejlmlgcehjiaa", sum := "4ab6e763ef805d0860641c2bedfe6cc2abb4b3d084c023f782d118bb36e56ee5", func := "archipelago/archipelagolaw08.NetsCopy", spec := "netsCopy", unfollowed := true, recurses := true, apart := false }
def NetsCopySaid : Prop := netsCopyRow.holds Try.pinned (OpenSpec.ofChange netsCopySpec)

/-- ITS FALSE NEIGHBOUR: 'it returns false'. Refute it at one input. -/
def netsCopyWrong : ChangeSpec := { name := "netsCopy", fn := fun _ => fun
  | [d1, d2] => { results := [.lit (.bool false)], args := [d1, d2] }
  | _ => none }
def NetsCopyWrongFalsely : Prop := netsCopyRow.holds Try.pinned (OpenSpec.ofChange netsCopyWrong)

/- THE SECOND FORM. 'bulk': how many values and letters a reading holds, each counted each time it is reached (what is shared counts as often as it is met; a slice's spare places count too). A statement '..UptoSaid' is the law's where the arguments, and the package variables that the reading takes, are together of bulk at most 1048576: NARROWER than '..Said'. Prove '..Said' where nothing that the law and all that it calls make is longer than what came in: it says more and counts as full. Else prove '..UptoSaid'. A law counts once. -/
mutual
def uptoBulk {H : Type} : DataW H → Nat
  | .lit (.string bytes) => bytes.length + 1
  | .lit _ => 1
  | .nil => 1
  | .ptr d => uptoBulk d + 1
  | .slice elems spare => uptoBulkAll elems + uptoBulkAll spare + 1
  | .agg parts => uptoBulkAll parts + 1
  | .iface _ d => uptoBulk d + 1
  | .map entries => uptoBulkEntries entries + 1
  | .held _ => 1
def uptoBulkAll {H : Type} : List (DataW H) → Nat
  | [] => 0
  | d :: r => uptoBulk d + uptoBulkAll r
def uptoBulkEntries {H : Type} : List (Lit × DataW H) → Nat
  | [] => 0
  | x :: r => uptoBulkEntry x + uptoBulkEntries r
def uptoBulkEntry {H : Type} : Lit × DataW H → Nat
  | (.string bytes, d) => bytes.length + uptoBulk d + 1
  | (_, d) => uptoBulk d + 1
 end
def uptoSmall : (H : Type) → List (DataW H) → Bool := fun _ ds => decide (uptoBulkAll ds ≤ 1048576)
def OpenSpec.upto (s : _root_.Go.ChangeSpec) : _root_.Go.OpenSpec := { _root_.Go.OpenSpec.ofChange s with cond := some uptoSmall }

/-- 'archipelagolaw08.NetsPlay', WHERE WHAT IT READS IS OF BULK AT MOST 1048576: true; the input reads as it did. -/
def netsPlayUptoRow : OpenClaim := { program := "ytlejlmlgcehjiaa", sum := "4ab6e763ef805d0860641c2bedfe6cc2abb4b3d084c023f782d118bb36e56ee5", func := "archipelago/archipelagolaw08.NetsPlay", spec := "netsPlay", unfollowed := true, recurses := true, apart := false, narrowed := true }
def NetsPlayUptoSaid : Prop := netsPlayUptoRow.holds Try.pinned (OpenSpec.upto netsPlaySpec)

/-- 'archipelagolaw08.NetsNone', WHERE WHAT IT READS IS OF BULK AT MOST 1048576: true; the input reads as it did. -/
def netsNoneUptoRow : OpenClaim := { program := "ytlejlmlgcehjiaa", sum := "4ab6e763ef805d0860641c2bedfe6cc2abb4b3d084c023f782d118bb36e56ee5", func := "archipelago/archipelagolaw08.NetsNone", spec := "netsNone", unfollowed := true, recurses := true, apart := false, narrowed := true }
def NetsNoneUptoSaid : Prop := netsNoneUptoRow.holds Try.pinned (OpenSpec.upto netsNoneSpec)

/-- 'archipelagolaw08.NetsOrder', WHERE WHAT IT READS IS OF BULK AT MOST 1048576: true; the input reads as it did. -/
def netsOrderUptoRow : OpenClaim := { program := "ytlejlmlgcehjiaa", sum := "4ab6e763ef805d0860641c2bedfe6cc2abb4b3d084c023f782d118bb36e56ee5", func := "archipelago/archipelagolaw08.NetsOrder", spec := "netsOrder", unfollowed := true, recurses := true, apart := false, narrowed := true }
def NetsOrderUptoSaid : Prop := netsOrderUptoRow.holds Try.pinned (OpenSpec.upto netsOrderSpec)

/-- 'archipelagolaw08.NetsCount', WHERE WHAT IT READS IS OF BULK AT MOST 1048576: true; the input reads as it did. -/
def netsCountUptoRow : OpenClaim := { program := "ytlejlmlgcehjiaa", sum := "4ab6e763ef805d0860641c2bedfe6cc2abb4b3d084c023f782d118bb36e56ee5", func := "archipelago/archipelagolaw08.NetsCount", spec := "netsCount", unfollowed := true, recurses := true, apart := false, narrowed := true }
def NetsCountUptoSaid : Prop := netsCountUptoRow.holds Try.pinned (OpenSpec.upto netsCountSpec)

/-- 'archipelagolaw08.NetsFull', WHERE WHAT IT READS IS OF BULK AT MOST 1048576: true; the input reads as it did. -/
def netsFullUptoRow : OpenClaim := { program := "ytlejlmlgcehjiaa", sum := "4ab6e763ef805d0860641c2bedfe6cc2abb4b3d084c023f782d118bb36e56ee5", func := "archipelago/archipelagolaw08.NetsFull", spec := "netsFull", unfollowed := true, recurses := true, apart := false, narrowed := true }
def NetsFullUptoSaid : Prop := netsFullUptoRow.holds Try.pinned (OpenSpec.upto netsFullSpec)

/-- 'archipelagolaw08.NetsCopy', WHERE WHAT IT READS IS OF BULK AT MOST 1048576: true; the input reads as it did. -/
def netsCopyUptoRow : OpenClaim := { program := "ytlejlmlgcehjiaa", sum := "4ab6e763ef805d0860641c2bedfe6cc2abb4b3d084c023f782d118bb36e56ee5", func := "archipelago/archipelagolaw08.NetsCopy", spec := "netsCopy", unfollowed := true, recurses := true, apart := false, narrowed := true }
def NetsCopyUptoSaid : Prop := netsCopyUptoRow.holds Try.pinned (OpenSpec.upto netsCopySpec)

end Rows
end Go.Proofs.Ytlejlmlgcehjiaa
