/-
  The contract of strings.Clone: the same text; nothing that was there is written.
-/
import Derived.Test.YtceldekbkffhpaaDFoot
import Derived.Lib.UnsafeStr
import Derived.Lib.BufferWrite
namespace Go.Proofs.Ytceldekbkffhpaa
open Go.RowKit
theorem cells_setRow {w : World} {g : Nat} {cur cs : Array Value} {t : TypeId} {f : Nat × Nat} (h : w.heap[g]? = some (.cells cur t f)) : (w.setRow g cs).heap[g]? = some (.cells cs t f) := by
  unfold World.setRow
  simp [Array.getElem?_modify, h]
theorem below_row1 {B g : Nat} {w : World} (cs : Array Value) (h : B ≤ g) : Below B w (w.setRow g cs) := by
  unfold World.setRow
  exact ⟨rfl, rfl, rfl, by simp, fun k hk => by
    simp only [Array.getElem?_modify]
    rw [if_neg (by omega)]⟩
theorem Try.cells_u8 : Try.prog.cellsOf 5 = 1 := by kernel_rfl
theorem clone_facts (s : ByteArray) (w : World) (hs : s.size ≤ 140737488351232) (h0 : 0 < s.size) :
    ∃ w1 w2 w3, (Instr.makeSlice 60 (.int .i64 (s.size : Int)) (.int .i64 (s.size : Int))).run Try.prog w = .ok (.slice (some ⟨w.heap.size, 0, none⟩) s.size s.size) w1 ∧
      (∀ ty, (Builtin.copy_ #[60, 9] ty #[.slice (some ⟨w.heap.size, 0, none⟩) s.size s.size, .string s]).run Try.prog w1 = .ok (goInt s.size) w2) ∧
      (∀ ty, (Builtin.unsafeString_ #[89, 3] ty #[.pointer (some ⟨w.heap.size, 0, none⟩), .int .i64 (s.size : Int)]).run Try.prog w2 = .ok (.string s) w3) ∧ Below w.heap.size w w3 := by
  obtain ⟨i0, hi, hz0, hz1, hz2⟩ := info_parts Try.info_u8
  obtain ⟨w1, hmk, hown, hgr⟩ := run_make_full (P := Try.prog) w w.heap.size 60 5 i0 (.int .u8 0) 1 Try.underlying60 hi hz0 hz1 .i64 .i64 s.size (by rw [hz2]; omega) (by unfold maxLen; omega) (Nat.le_refl _)
  have hb1 : Below w.heap.size w w1 := (Below.refl _ _).grown hgr (Nat.le_refl _) (fun k hk => by cases hk)
  rcases hown.2 with ⟨hv, _⟩ | ⟨g, cap, cur, hv, hg, hh, hnc, hcm, hcs, _⟩
  · cases hv
  · obtain ⟨rfl, rfl⟩ : g = w.heap.size ∧ cap = s.size := by
      injection hv with e1 e2 e3
      injection e1 with e1
      injection e1 with e1
      exact ⟨e1.symm, e3.symm⟩
    have hcs' : cur.size = s.size := by omega
    have hcp := fun ty => Lib.run_copy_row_string (P := Try.prog) w1 60 9 ty 5 w.heap.size 0 s.size s.size s cur 5 Try.underlying60 (by rw [hi]; simp [hz1]) hh (Nat.le_refl _) (by omega)
    have hrow : (cur.toList.take 0 ++ Lib.byteCells s.data.toList ++ cur.toList.drop (0 + s.size)).toArray = (Lib.byteCells s.data.toList).toArray := by
      rw [List.drop_of_length_le (by simp [hcs'])]
      simp
    rw [hrow] at hcp
    have hh2 := cells_setRow (cs := (Lib.byteCells s.data.toList).toArray) hh
    have hb2 := hb1.trans (below_row1 (w := w1) (Lib.byteCells s.data.toList).toArray (Nat.le_refl w.heap.size))
    generalize w1.setRow w.heap.size (Lib.byteCells s.data.toList).toArray = w2 at *
    have hlen : s.data.toList.length = s.size := rfl
    have hus := fun ty => Lib.run_unsafeString_row (P := Try.prog) w2 89 3 ty 5 Try.underlying89 Try.cells_u8 w.heap.size s.size (by unfold World.shape?; rw [hh2]; simp [Lib.byteCells, hlen]) s.data.toList (by intro e; rw [e] at hlen; simp at hlen; omega) (by omega) (by omega) (fun j x hx => by
      have : (⟨w.heap.size, 0, none⟩ : Addr).add j = ⟨w.heap.size, j, none⟩ := by unfold Addr.add; split <;> simp_all
      rw [this, cell_of_row w2 w.heap.size j _ 5 (0, 0) hh2]
      simp [Lib.byteCells, hx])
    refine ⟨w1, w2, _, hmk, hcp, fun ty => ?_, Lib.below_freeze (p := ⟨w.heap.size, 0, none⟩) hb2 (Nat.le_refl _) s.size⟩
    have := hus ty
    rw [hlen] at this
    exact this
set_option maxRecDepth 100000 in
set_option maxHeartbeats 1000000 in
theorem liteClone_any (s : ByteArray) (w : World) (hs : s.size ≤ 140737488351232) :
    Calls Try.prog 72 #[.string s] w fun e w' => e = .returned (.string s) ∧ Below w.heap.size w w' := by
  by_cases h0 : s.size = 0
  · have hb : ((s.size : Int) == 0) = true := beq_iff_eq.2 (by omega)
    have he : s = ⟨#[]⟩ := by apply ByteArray.ext; exact Array.eq_empty_of_size_eq_zero h0
    have HE := Lib.hid he
    clear he h0
    go_enter Try.func72, Try.ntmps72
    go_wp2
    go_ret
    exact ⟨by rw [HE.out]; rfl, Below.refl _ _⟩
  · have hb : ((s.size : Int) == 0) = false := beq_eq_false_iff_ne.2 (by omega)
    have hpos : 0 < s.size := by omega
    obtain ⟨w1, w2, w3, f1, f2, f3, hbel⟩ := clone_facts s w hs hpos
    go_enter Try.func72, Try.ntmps72
    go_wp2
    go_ret
    exact ⟨rfl, hbel⟩
theorem clone_any (s : ByteArray) (w : World) (hs : s.size ≤ 140737488351232) :
    Calls Try.prog 51 #[.string s] w fun e w' => e = .returned (.string s) ∧ Below w.heap.size w w' := by
  go_enter Try.func51, Try.ntmps51
  go_wp2_with fail
  refine (liteClone_any _ _ hs).mono ?_
  rintro e w1 ⟨rfl, hb⟩
  go_wp2_with fail
  go_ret
  exact ⟨rfl, hb⟩
end Go.Proofs.Ytceldekbkffhpaa
