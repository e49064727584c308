/-
  No cell of these rows narrows 'for every input' (looked for: loops, veiled, ifaces, maps, wideKeys, modest, calm, conditions, laid).
  DERIVED. THE GIVEN ROWS OF THIS SEAT. 8 by the template 'for every input the law returns true; each argument reads behind the call as it read before'; 0 by the template 'total and deterministic' (their statements: YtffjijgmjbhhoaaTotals.lean).
  GIVEN WITH THE SEED: the statements are not yours to turn. If you find one false, say at which input.
  Laid BY PROGRAM, IN A SANDBOX (cutbox-rows.mjs): the forced cells as the released guide's own fill.sh prints them over the translation 17cbcb697f3cbaf4… (all of the seat's roots in one cut). By AI agents, Wed Nov 11 2026. No macro, syntax, notation, axiom, sorry.
-/
import Derived.Test.YtffjijgmjbhhoaaChecked
import GoSem.Claim
import GoSem.ClaimJoined
import GoSem.ClaimMapViews
import Derived.JoinedTies
import Derived.KernelRfl
namespace Go.Proofs.Ytffjijgmjbhhoaa
/- THE CELL 'sum', in the pinned program and in every row, IS THE sha256 OF THE DUMP (.gsa) THAT YtffjijgmjbhhoaaProg.lean LOADS. Nothing in Lean hashes anything: it is a label: what it is worth is what the hold of that sum in a sandbox is worth. -/
noncomputable def Try.pinned : Pinned := { name := "ytffjijgmjbhhoaa", sum := "17cbcb697f3cbaf412248a12149af7aaf8046a20eb37f82c9c3b68260e65c147", checked := Try.checked }
namespace Rows
def none {H : Type} : Left H := { results := [], args := [] }

/-- 'archipelagolaw14.ListsTwo': WHATEVER THE INPUT: true; the input reads as it did. -/
def listsTwoSpec : ChangeSpec := { name := "listsTwo", fn := fun _ => fun
  | [d1, d2] => { results := [.lit (.bool true)], args := [d1, d2] }
  | _ => none }
def listsTwoRow : OpenClaim := { program := "ytffjijgmjbhhoaa", sum := "17cbcb697f3cbaf412248a12149af7aaf8046a20eb37f82c9c3b68260e65c147", func := "archipelago/archipelagolaw14.ListsTwo", spec := "listsTwo", unfollowed := true, recurses := true, apart := false }
def ListsTwoSaid : Prop := listsTwoRow.holds Try.pinned (OpenSpec.ofChange listsTwoSpec)

/-- ITS FALSE NEIGHBOUR: 'it returns false'. Refute it at one input. -/
def listsTwoWrong : ChangeSpec := { name := "listsTwo", fn := fun _ => fun
  | [d1, d2] => { results := [.lit (.bool false)], args := [d1, d2] }
  | _ => none }
def ListsTwoWrongFalsely : Prop := listsTwoRow.holds Try.pinned (OpenSpec.ofChange listsTwoWrong)

/-- 'archipelagolaw14.ListsBest': WHATEVER THE INPUT: true; the input reads as it did. -/
def listsBestSpec : ChangeSpec := { name := "listsBest", fn := fun _ => fun
  | [d] => { results := [.lit (.bool true)], args := [d] }
  | _ => none }
def listsBestRow : OpenClaim := { program := "ytffjijgmjbhhoaa", sum := "17cbcb697f3cbaf412248a12149af7aaf8046a20eb37f82c9c3b68260e65c147", func := "archipelago/archipelagolaw14.ListsBest", spec := "listsBest", unfollowed := true, recurses := true, apart := false }
def ListsBestSaid : Prop := listsBestRow.holds Try.pinned (OpenSpec.ofChange listsBestSpec)

/-- ITS FALSE NEIGHBOUR: 'it returns false'. Refute it at one input. -/
def listsBestWrong : ChangeSpec := { name := "listsBest", fn := fun _ => fun
  | [d] => { results := [.lit (.bool false)], args := [d] }
  | _ => none }
def ListsBestWrongFalsely : Prop := listsBestRow.holds Try.pinned (OpenSpec.ofChange listsBestWrong)

/-- 'archipelagolaw14.ListsSeals': WHATEVER THE INPUT: true; the input reads as it did. -/
def listsSealsSpec : ChangeSpec := { name := "listsSeals", fn := fun _ => fun
  | [d] => { results := [.lit (.bool true)], args := [d] }
  | _ => none }
def listsSealsRow : OpenClaim := { program := "ytffjijgmjbhhoaa", sum := "17cbcb697f3cbaf412248a12149af7aaf8046a20eb37f82c9c3b68260e65c147", func := "archipelago/archipelagolaw14.ListsSeals", spec := "listsSeals", unfollowed := true, recurses := true, apart := false }
def ListsSealsSaid : Prop := listsSealsRow.holds Try.pinned (OpenSpec.ofChange listsSealsSpec)

/-- ITS FALSE NEIGHBOUR: 'it returns false'. Refute it at one input. -/
def listsSealsWrong : ChangeSpec := { name := "listsSeals", fn := fun _ => fun
  | [d] => { results := [.lit (.bool false)], args := [d] }
  | _ => none }
def ListsSealsWrongFalsely : Prop := listsSealsRow.holds Try.pinned (OpenSpec.ofChange listsSealsWrong)

/-- 'archipelagolaw14.ListsOrder': WHATEVER THE INPUT: true; the input reads as it did. -/
def listsOrderSpec : ChangeSpec := { name := "listsOrder", fn := fun _ => fun
  | [d1, d2, d3] => { results := [.lit (.bool true)], args := [d1, d2, d3] }
  | _ => none }
def listsOrderRow : OpenClaim := { program := "ytffjijgmjbhhoaa", sum := "17cbcb697f3cbaf412248a12149af7aaf8046a20eb37f82c9c3b68260e65c147", func := "archipelago/archipelagolaw14.ListsOrder", spec := "listsOrder", unfollowed := true, recurses := true, apart := false }
def ListsOrderSaid : Prop := listsOrderRow.holds Try.pinned (OpenSpec.ofChange listsOrderSpec)

/-- ITS FALSE NEIGHBOUR: 'it returns false'. Refute it at one input. -/
def listsOrderWrong : ChangeSpec := { name := "listsOrder", fn := fun _ => fun
  | [d1, d2, d3] => { results := [.lit (.bool false)], args := [d1, d2, d3] }
  | _ => none }
def ListsOrderWrongFalsely : Prop := listsOrderRow.holds Try.pinned (OpenSpec.ofChange listsOrderWrong)

/-- 'archipelagolaw14.ListsTree': WHATEVER THE INPUT: true; the input reads as it did. -/
def listsTreeSpec : ChangeSpec := { name := "listsTree", fn := fun _ => fun
  | [d1, d2] => { results := [.lit (.bool true)], args := [d1, d2] }
  | _ => none }
def listsTreeRow : OpenClaim := { program := "ytffjijgmjbhhoaa", sum := "17cbcb697f3cbaf412248a12149af7aaf8046a20eb37f82c9c3b68260e65c147", func := "archipelago/archipelagolaw14.ListsTree", spec := "listsTree", unfollowed := true, recurses := true, apart := false }
def ListsTreeSaid : Prop := listsTreeRow.holds Try.pinned (OpenSpec.ofChange listsTreeSpec)

/-- ITS FALSE NEIGHBOUR: 'it returns false'. Refute it at one input. -/
def listsTreeWrong : ChangeSpec := { name := "listsTree", fn := fun _ => fun
  | [d1, d2] => { results := [.lit (.bool false)], args := [d1, d2] }
  | _ => none }
def ListsTreeWrongFalsely : Prop := listsTreeRow.holds Try.pinned (OpenSpec.ofChange listsTreeWrong)

/-- 'archipelagolaw14.ListsCommon': WHATEVER THE INPUT: true; the input reads as it did. -/
def listsCommonSpec : ChangeSpec := { name := "listsCommon", fn := fun _ => fun
  | [d1, d2] => { results := [.lit (.bool true)], args := [d1, d2] }
  | _ => none }
def listsCommonRow : OpenClaim := { program := "ytffjijgmjbhhoaa", sum := "17cbcb697f3cbaf412248a12149af7aaf8046a20eb37f82c9c3b68260e65c147", func := "archipelago/archipelagolaw14.ListsCommon", spec := "listsCommon", unfollowed := true, recurses := true, apart := false }
def ListsCommonSaid : Prop := listsCommonRow.holds Try.pinned (OpenSpec.ofChange listsCommonSpec)

/-- ITS FALSE NEIGHBOUR: 'it returns false'. Refute it at one input. -/
def listsCommonWrong : ChangeSpec := { name := "listsCommon", fn := fun _ => fun
  | [d1, d2] => { results := [.lit (.bool false)], args := [d1, d2] }
  | _ => none }
def ListsCommonWrongFalsely : Prop := listsCommonRow.holds Try.pinned (OpenSpec.ofChange listsCommonWrong)

/-- 'archipelagolaw14.ListsFirst': WHATEVER THE INPUT: true; the input reads as it did. -/
def listsFirstSpec : ChangeSpec := { name := "listsFirst", fn := fun _ => fun
  | [d] => { results := [.lit (.bool true)], args := [d] }
  | _ => none }
def listsFirstRow : OpenClaim := { program := "ytffjijgmjbhhoaa", sum := "17cbcb697f3cbaf412248a12149af7aaf8046a20eb37f82c9c3b68260e65c147", func := "archipelago/archipelagolaw14.ListsFirst", spec := "listsFirst", unfollowed := true, recurses := true, apart := false }
def ListsFirstSaid : Prop := listsFirstRow.holds Try.pinned (OpenSpec.ofChange listsFirstSpec)

/-- ITS FALSE NEIGHBOUR: 'it returns false'. Refute it at one input. -/
def listsFirstWrong : ChangeSpec := { name := "listsFirst", fn := fun _ => fun
  | [d] => { results := [.lit (.bool false)], args := [d] }
  | _ => none }
def ListsFirstWrongFalsely : Prop := listsFirstRow.holds Try.pinned (OpenSpec.ofChange listsFirstWrong)

/-- 'archipelagolaw14.ListsEpochs': WHATEVER THE INPUT: true; the input reads as it did. -/
def listsEpochsSpec : ChangeSpec := { name := "listsEpochs", fn := fun _ => fun
  | [d1, d2] => { results := [.lit (.bool true)], args := [d1, d2] }
  | _ => none }
def listsEpochsRow : OpenClaim := { program := "ytffjijgmjbhhoaa", sum := "17cbcb697f3cbaf412248a12149af7aaf8046a20eb37f82c9c3b68260e65c147", func := "archipelago/archipelagolaw14.ListsEpochs", spec := "listsEpochs", unfollowed := true, recurses := true, apart := false }
def ListsEpochsSaid : Prop := listsEpochsRow.holds Try.pinned (OpenSpec.ofChange listsEpochsSpec)

/-- ITS FALSE NEIGHBOUR: 'it returns false'. Refute it at one input. -/
def listsEpochsWrong : ChangeSpec := { name := "listsEpochs", fn := fun _ => fun
  | [d1, d2] => { results := [.lit (.bool false)], args := [d1, d2] }
  | _ => none }
def ListsEpochsWrongFalsely : Prop := listsEpochsRow.holds Try.pinned (OpenSpec.ofChange listsEpochsWrong)

/- THE SECOND FORM. 'bulk': how many values and letters a reading holds, each counted each time it is reached (what is shared counts as often as it is met; a slice's spare places count too). A statement '..UptoSaid' is the law's where the arguments, and the package variables that the reading takes, are together of bulk at most 1048576: NARROWER than '..Said'. Prove '..Said' where nothing that the law and all that it calls make is longer than what came in: it says more and counts as full. Else prove '..UptoSaid'. A law counts once. -/
mutual
def uptoBulk {H : Type} : DataW H → Nat
  | .lit (.string bytes) => bytes.length + 1
  | .lit _ => 1
  | .nil => 1
  | .ptr d => uptoBulk d + 1
  | .slice elems spare => uptoBulkAll elems + uptoBulkAll spare + 1
  | .agg parts => uptoBulkAll parts + 1
  | .iface _ d => uptoBulk d + 1
  | .map entries => uptoBulkEntries entries + 1
  | .held _ => 1
def uptoBulkAll {H : Type} : List (DataW H) → Nat
  | [] => 0
  | d :: r => uptoBulk d + uptoBulkAll r
def uptoBulkEntries {H : Type} : List (Lit × DataW H) → Nat
  | [] => 0
  | x :: r => uptoBulkEntry x + uptoBulkEntries r
def uptoBulkEntry {H : Type} : Lit × DataW H → Nat
  | (.string bytes, d) => bytes.length + uptoBulk d + 1
  | (_, d) => uptoBulk d + 1
 end
def uptoSmall : (H : Type) → List (DataW H) → Bool := fun _ ds => decide (uptoBulkAll ds ≤ 1048576)
def OpenSpec.upto (s : _root_.Go.ChangeSpec) : _root_.Go.OpenSpec := { _root_.Go.OpenSpec.ofChange s with cond := some uptoSmall }

/-- 'archipelagolaw14.ListsTwo', WHERE WHAT IT READS IS OF BULK AT MOST 1048576: true; the input reads as it did. -/
def listsTwoUptoRow : OpenClaim := { program := "ytffjijgmjbhhoaa", sum := "17cbcb697f3cbaf412248a12149af7aaf8046a20eb37f82c9c3b68260e65c147", func := "archipelago/archipelagolaw14.ListsTwo", spec := "listsTwo", unfollowed := true, recurses := true, apart := false, narrowed := true }
def ListsTwoUptoSaid : Prop := listsTwoUptoRow.holds Try.pinned (OpenSpec.upto listsTwoSpec)

/-- 'archipelagolaw14.ListsBest', WHERE WHAT IT READS IS OF BULK AT MOST 1048576: true; the input reads as it did. -/
def listsBestUptoRow : OpenClaim := { program := "ytffjijgmjbhhoaa", sum := "17cbcb697f3cbaf412248a12149af7aaf8046a20eb37f82c9c3b68260e65c147", func := "archipelago/archipelagolaw14.ListsBest", spec := "listsBest", unfollowed := true, recurses := true, apart := false, narrowed := true }
def ListsBestUptoSaid : Prop := listsBestUptoRow.holds Try.pinned (OpenSpec.upto listsBestSpec)

/-- 'archipelagolaw14.ListsSeals', WHERE WHAT IT READS IS OF BULK AT MOST 1048576: true; the input reads as it did. -/
def listsSealsUptoRow : OpenClaim := { program := "ytffjijgmjbhhoaa", sum := "17cbcb697f3cbaf412248a12149af7aaf8046a20eb37f82c9c3b68260e65c147", func := "archipelago/archipelagolaw14.ListsSeals", spec := "listsSeals", unfollowed := true, recurses := true, apart := false, narrowed := true }
def ListsSealsUptoSaid : Prop := listsSealsUptoRow.holds Try.pinned (OpenSpec.upto listsSealsSpec)

/-- 'archipelagolaw14.ListsOrder', WHERE WHAT IT READS IS OF BULK AT MOST 1048576: true; the input reads as it did. -/
def listsOrderUptoRow : OpenClaim := { program := "ytffjijgmjbhhoaa", sum := "17cbcb697f3cbaf412248a12149af7aaf8046a20eb37f82c9c3b68260e65c147", func := "archipelago/archipelagolaw14.ListsOrder", spec := "listsOrder", unfollowed := true, recurses := true, apart := false, narrowed := true }
def ListsOrderUptoSaid : Prop := listsOrderUptoRow.holds Try.pinned (OpenSpec.upto listsOrderSpec)

/-- 'archipelagolaw14.ListsTree', WHERE WHAT IT READS IS OF BULK AT MOST 1048576: true; the input reads as it did. -/
def listsTreeUptoRow : OpenClaim := { program := "ytffjijgmjbhhoaa", sum := "17cbcb697f3cbaf412248a12149af7aaf8046a20eb37f82c9c3b68260e65c147", func := "archipelago/archipelagolaw14.ListsTree", spec := "listsTree", unfollowed := true, recurses := true, apart := false, narrowed := true }
def ListsTreeUptoSaid : Prop := listsTreeUptoRow.holds Try.pinned (OpenSpec.upto listsTreeSpec)

/-- 'archipelagolaw14.ListsCommon', WHERE WHAT IT READS IS OF BULK AT MOST 1048576: true; the input reads as it did. -/
def listsCommonUptoRow : OpenClaim := { program := "ytffjijgmjbhhoaa", sum := "17cbcb697f3cbaf412248a12149af7aaf8046a20eb37f82c9c3b68260e65c147", func := "archipelago/archipelagolaw14.ListsCommon", spec := "listsCommon", unfollowed := true, recurses := true, apart := false, narrowed := true }
def ListsCommonUptoSaid : Prop := listsCommonUptoRow.holds Try.pinned (OpenSpec.upto listsCommonSpec)

/-- 'archipelagolaw14.ListsFirst', WHERE WHAT IT READS IS OF BULK AT MOST 1048576: true; the input reads as it did. -/
def listsFirstUptoRow : OpenClaim := { program := "ytffjijgmjbhhoaa", sum := "17cbcb697f3cbaf412248a12149af7aaf8046a20eb37f82c9c3b68260e65c147", func := "archipelago/archipelagolaw14.ListsFirst", spec := "listsFirst", unfollowed := true, recurses := true, apart := false, narrowed := true }
def ListsFirstUptoSaid : Prop := listsFirstUptoRow.holds Try.pinned (OpenSpec.upto listsFirstSpec)

/-- 'archipelagolaw14.ListsEpochs', WHERE WHAT IT READS IS OF BULK AT MOST 1048576: true; the input reads as it did. -/
def listsEpochsUptoRow : OpenClaim := { program := "ytffjijgmjbhhoaa", sum := "17cbcb697f3cbaf412248a12149af7aaf8046a20eb37f82c9c3b68260e65c147", func := "archipelago/archipelagolaw14.ListsEpochs", spec := "listsEpochs", unfollowed := true, recurses := true, apart := false, narrowed := true }
def ListsEpochsUptoSaid : Prop := listsEpochsUptoRow.holds Try.pinned (OpenSpec.upto listsEpochsSpec)

end Rows
end Go.Proofs.Ytffjijgmjbhhoaa
