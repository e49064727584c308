/-
  The contracts of folds in the form that the laws' walks take.
-/
import Derived.Test.YtafhjlfnhgkcoaaDoorFoWorks
namespace Go.Proofs.YtafhjlfnhgkcoaaDoor
open Go.RowKit Go.Sort Go.Maps
/-- What Of of the program leaves, in short. -/
def OfP (es : List En) (w : World) (e : Ending) (w' : World) : Prop :=
  ∃ g, e = .returned (.tuple #[(foldL es).1.v, .slice (some ⟨g, 0, none⟩) es.length es.length]) ∧ OcsB w.heap.size w'.heap.size w' (.slice (some ⟨g, 0, none⟩) es.length es.length) (foldL es).2 ∧ w.heap.size ≤ g ∧ g < w'.heap.size ∧ Below w.heap.size w w'
theorem ofp_any {v : Value} {B : Nat} {es : List En} {w : World} (ha : EsB B w v es) (hint : ∀ e ∈ es, IntsOk e.l) (hB : B ≤ w.heap.size) (hA : Asked w) (hn : es.length ≤ 100000) : Calls Tryd.prog 11 #[v] w (OfP es w) :=
  (of_any ha hint hB hA hn).mono fun e w' ⟨g, he, h1, h2, _, h4, hb⟩ => by
    have hl := foldL_len es
    have ho := OfPost.ocs (os := (foldL es).2) (by omega) h1 h2 h4
    rw [hl] at he ho
    exact ⟨g, he, ho, h1, h2, hb⟩
theorem take_ints {es : List En} (h : ∀ e ∈ es, IntsOk e.l) (k : Nat) : ∀ e ∈ es.take k, IntsOk e.l := fun e he => h e (List.mem_of_mem_take he)
end Go.Proofs.YtafhjlfnhgkcoaaDoor
