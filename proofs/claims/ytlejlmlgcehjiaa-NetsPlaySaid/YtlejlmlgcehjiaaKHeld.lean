/-
  A region that draws its order, held by a condition that grows on the way.
-/
import Derived.Test.YtlejlmlgcehjiaaProg
import Derived.Deep.RegionHeld3
namespace Go.Proofs.Ytlejlmlgcehjiaa
theorem held_more {P : Program} {md : Region.Mode} {ops : Array Oper} {Q : Exit → Act → World → Prop} {S S' : World → Prop} (h : ∀ w, S' w → S w) :
    ∀ (fuel : Nat) (listed : Array Bool) (a : Act) (w : World), wpAnyH P md ops Q S' fuel listed a w → wpAnyH P md ops Q S fuel listed a w
  | 0, _, _, _, h' => h'
  | fuel + 1, _, _, _, h' => ⟨h'.1, fun i hi => wpOp_mono (fun a' w' k => ⟨h w' k.1, held_more h fuel _ a' w' k.2⟩) (h'.2 i hi)⟩
end Go.Proofs.Ytlejlmlgcehjiaa
