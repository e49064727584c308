/-
  Find of package folds, and of the document.
-/
import Derived.Test.YtafhjlfnhgkcoaaDoorFoMem
import Derived.Test.YtafhjlfnhgkcoaaDoorAeCheck
import Derived.Deep.QuietTactic
import Derived.BigQuiet
namespace Go.Proofs.YtafhjlfnhgkcoaaDoor
open Go.RowKit
theorem findR_hit {l : List En} {id : Int} {k : Nat} (hk : k < l.length) (h1 : l[k].o.id = id) (h2 : ∀ j, (hj : j < k) → (l[j]'(by omega)).o.id ≠ id) : findR l id = ((k : Int), true) := by
  unfold findR; rw [firstAt_hit hk h1 h2]
theorem findR_miss {l : List En} {id : Int} (h : ∀ e ∈ l, e.o.id ≠ id) : findR l id = (0, false) := by
  unfold findR; rw [firstAt_none.2 h]
set_option maxRecDepth 100000 in
set_option maxHeartbeats 1000000 in
theorem find_any {v : Value} {B : Nat} {es : List En} {w : World} (id : Int) (ha : EsB B w v es) (hB : B ≤ w.heap.size) : Calls Tryd.prog 16 #[v, .int .i64 id] w (NumPost (.tuple #[.int .i64 (findR es id).1, .bool (findR es id).2]) w) := by
  have HCA := Lib.hid (fun X (hX : Below w.heap.size w X) k (hk : k < es.length) => EsB.cells (RdB.below ha hX hB) hk)
  obtain ⟨A, ca, rfl, h1, h2, -⟩ := ha.len
  have hl : es.length ≤ maxLen := by omega
  unfold maxLen at hl
  clear ha h2
  go_enter Tryd.func16, Tryd.ntmps16
  go_wp2
  go_loopw [4, 5, 10] (fun a b i wr => ∃ k : Nat, k ≤ es.length ∧ a = .int .i64 0 ∧ b = .bool false ∧ i = .int .i64 k ∧ Below w.heap.size w wr ∧ ∀ j, (hj : j < k) → ∀ hj' : j < es.length, es[j].o.id ≠ id) (fun _ _ i _ => es.length - (intOf i).toNat)
  case atStart => exact ⟨0, Nat.zero_le _, rfl, rfl, rfl, Below.refl _ _, fun j hj => by omega⟩
  case round =>
    obtain ⟨k, hk, rfl, rfl, rfl, hst, hno⟩ := hrel
    by_cases hlt : k < es.length
    · obtain ⟨b1, o1, c1, hv1, hb1, x0, x1, x2, x3, x4, x5⟩ := HCA.out wr hst k hlt
      injection hv1 with e1 _ e3
      subst e1 e3
      have hii : (k : Int) < (es.length : Int) := by omega
      clear HCA
      have HR : Hid (es[k].o.id = id → findR es id = ((k : Int), true)) := Lib.hid fun h => findR_hit hlt h fun j hj => hno j hj (by omega)
      have HN : Hid (es[k].o.id ≠ id → ∀ j, (hj : j < k + 1) → ∀ hj' : j < es.length, es[j].o.id ≠ id) := Lib.hid fun h j hj hj' => by
        by_cases e : j = k
        · subst e; exact h
        · exact hno j (by omega) hj'
      clear hno
      by_cases he : es[k].o.id = id
      · have HE := HR.out he
        rw [HE]
        clear HE HR HN
        generalize es[k] = ee at *
        obtain ⟨z0, z1, z2, z3, z4, z5⟩ := ee
        dsimp only at x0 x1 x2 x3 x4 x5 he
        subst he
        go_wp2
        go_ret2
        exact ⟨rfl, hst.alloc (hst.size) _⟩
      · have HN' := Lib.hid (HN.out he)
        clear HR HN
        generalize es[k] = ee at *
        obtain ⟨z0, z1, z2, z3, z4, z5⟩ := ee
        dsimp only at x0 x1 x2 x3 x4 x5 he
        have hb : (z1 == id) = false := by simpa using he
        clear he
        go_wp2
        go_roundw
        case rel => exact ⟨k + 1, by omega, rfl, rfl, by go_num, hst.alloc (hst.size) _, HN'.out⟩
        case measure => simp [intOf]; omega
    · have HE : findR es id = (0, false) := findR_miss fun e he => by
        obtain ⟨j, hj, rfl⟩ := List.getElem_of_mem he
        exact hno j (by omega) hj
      clear hno
      go_wp2
      go_ret2
      exact ⟨by rw [HE]; rfl, hst⟩
set_option maxRecDepth 100000 in
set_option maxHeartbeats 1000000 in
theorem rfind_any {v : Value} {B : Nat} {es : List En} {w : World} (id : Int) (ha : EsB B w v es) (hB : B ≤ w.heap.size) : Calls Tryd.prog 17 #[v, .int .i64 id] w (NumPost (.tuple #[.int .i64 (findR es id).1, .bool (findR es id).2]) w) := by
  have HCA := Lib.hid (fun X (hX : Below w.heap.size w X) k (hk : k < es.length) => EsB.cells (RdB.below ha hX hB) hk)
  obtain ⟨A, ca, rfl, h1, h2, -⟩ := ha.len
  have hl : es.length ≤ maxLen := by omega
  unfold maxLen at hl
  clear ha h2
  go_enter Tryd.func17, Tryd.ntmps17
  go_wp2
  go_loopw [4, 5, 6] (fun a b i wr => ∃ k : Nat, k ≤ es.length ∧ a = .int .i64 0 ∧ b = .bool false ∧ i = .int .i64 k ∧ Below w.heap.size w wr ∧ ∀ j, (hj : j < k) → ∀ hj' : j < es.length, es[j].o.id ≠ id) (fun _ _ i _ => es.length - (intOf i).toNat)
  case atStart => exact ⟨0, Nat.zero_le _, rfl, rfl, rfl, Below.refl _ _, fun j hj => by omega⟩
  case round =>
    obtain ⟨k, hk, rfl, rfl, rfl, hst, hno⟩ := hrel
    by_cases hlt : k < es.length
    · obtain ⟨b1, o1, c1, hv1, hb1, x0, x1, x2, x3, x4, x5⟩ := HCA.out wr hst k hlt
      injection hv1 with e1 _ e3
      subst e1 e3
      have hii : (k : Int) < (es.length : Int) := by omega
      clear HCA
      have HR : Hid (es[k].o.id = id → findR es id = ((k : Int), true)) := Lib.hid fun h => findR_hit hlt h fun j hj => hno j hj (by omega)
      have HN : Hid (es[k].o.id ≠ id → ∀ j, (hj : j < k + 1) → ∀ hj' : j < es.length, es[j].o.id ≠ id) := Lib.hid fun h j hj hj' => by
        by_cases e : j = k
        · subst e; exact h
        · exact hno j (by omega) hj'
      clear hno
      by_cases he : es[k].o.id = id
      · have HE := HR.out he
        rw [HE]
        clear HE HR HN
        generalize es[k] = ee at *
        obtain ⟨z0, z1, z2, z3, z4, z5⟩ := ee
        dsimp only at x0 x1 x2 x3 x4 x5 he
        subst he
        go_wp2
        go_ret2
        exact ⟨rfl, hst⟩
      · have HN' := Lib.hid (HN.out he)
        clear HR HN
        generalize es[k] = ee at *
        obtain ⟨z0, z1, z2, z3, z4, z5⟩ := ee
        dsimp only at x0 x1 x2 x3 x4 x5 he
        have hb : (z1 == id) = false := by simpa using he
        clear he
        go_wp2
        go_roundw
        case rel => exact ⟨k + 1, by omega, rfl, rfl, by go_num, hst, HN'.out⟩
        case measure => simp [intOf]; omega
    · have HE : findR es id = (0, false) := findR_miss fun e he => by
        obtain ⟨j, hj, rfl⟩ := List.getElem_of_mem he
        exact hno j (by omega) hj
      clear hno
      go_wp2
      go_ret2
      exact ⟨by rw [HE]; rfl, hst⟩
end Go.Proofs.YtafhjlfnhgkcoaaDoor
