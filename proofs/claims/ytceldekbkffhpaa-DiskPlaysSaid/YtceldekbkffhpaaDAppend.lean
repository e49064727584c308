/-
  Contracts of New and Append.
-/
import Derived.Test.YtceldekbkffhpaaDStart
import Derived.Test.YtceldekbkffhpaaDIns
import Derived.Test.YtceldekbkffhpaaDClone
namespace Go.Proofs.Ytceldekbkffhpaa
open Go.RowKit Go.Sort
section
variable {w w' : World} {d : Nat} {D : Dsk.Dk} {S T : Nat → Prop} {v : Value} {fs : List MF} {left : Int} {fv : Value}
def NewPost (w : World) (c : Int) (e : Ending) (w' : World) : Prop :=
  (¬ (1 ≤ c ∧ c ≤ 1048576) ∧ e = .returned (.tuple #[.pointer none, .int .i64 2]) ∧ w = w') ∨
  ((1 ≤ c ∧ c ≤ 1048576) ∧ e = .returned (.tuple #[.pointer (some ⟨w.heap.size, 0, none⟩), .int .i64 0]) ∧ IsDisk w' w.heap.size (Dsk.new c.toNat) (fun k => k = w.heap.size) ∧ Below w.heap.size w w')
theorem new_good {c : Nat} (h1 : 1 ≤ c) (h2 : c ≤ 1048576) : Dsk.Good (Dsk.new c) := ⟨List.Pairwise.nil, Nat.zero_le _, Nat.zero_le _, h1, h2, fun _ h => (List.not_mem_nil h).elim, fun _ h => (List.not_mem_nil h).elim⟩
theorem new_disk {c : Nat} (h1 : 1 ≤ c) (h2 : c ≤ 1048576) : IsDisk (w.alloc (.cells #[.int .i64 (c : Int), .slice none 0 0, .bool false, .int .i64 0, .int .i64 0, .nilFunc] 51)) w.heap.size (Dsk.new c) (fun k => k = w.heap.size) := by
  refine ⟨fun _ => False, .slice none 0 0, [], 0, .nilFunc, heap_alloc_new w _, ⟨World.ownsRow_nil _ _ _ _, (fun _ h => (List.not_mem_nil h).elim), List.Pairwise.nil, (fun _ h => (List.not_mem_nil h).elim), (fun h => by cases h), fun _ h => (List.not_mem_nil h).elim⟩, rfl, rfl, fun _ h => h.elim, fun k hk => ?_, fun k hk => by rw [hk]; simp, new_good h1 h2⟩
  rcases hk with e | e | ⟨f, hf, _⟩
  · exact e
  · cases e
  · exact (List.not_mem_nil hf).elim
set_option maxRecDepth 100000 in
theorem new_any (c : Int) : Calls Try.prog 5 #[.int .i64 c] w (NewPost w c) := by
  by_cases h1 : c < 1
  · have t1 : decide (c < 1) = true := decide_eq_true h1
    go_enter Try.func5, Try.ntmps5
    go_wp2
    go_ret2
    exact .inl ⟨by omega, rfl, rfl⟩
  · have t1 : decide (c < 1) = false := decide_eq_false h1
    by_cases h2 : 1048576 < c
    · have t2 : decide (1048576 < c) = true := decide_eq_true h2
      go_enter Try.func5, Try.ntmps5
      go_wp2
      go_ret2
      exact .inl ⟨by omega, rfl, rfl⟩
    · have t2 : decide (1048576 < c) = false := decide_eq_false h2
      obtain ⟨m, rfl⟩ := Int.eq_ofNat_of_zero_le (show 0 ≤ c by omega)
      have HD := Lib.hid (new_disk (w := w) (c := m) (by omega) (by omega))
      go_enter Try.func5, Try.ntmps5
      go_wp2
      go_ret2
      exact .inr ⟨by omega, rfl, HD.out, (Below.refl _ _).alloc (Nat.le_refl _) _⟩
end
end Go.Proofs.Ytceldekbkffhpaa
