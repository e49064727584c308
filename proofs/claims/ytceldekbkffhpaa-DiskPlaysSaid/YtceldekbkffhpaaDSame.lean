/-
  SameInts, SameTexts at two slices that read alike; and the disk of an example.
-/
import Derived.Test.YtceldekbkffhpaaDApp3
import Derived.Test.YtceldekbkffhpaaDRenam
import Derived.BigQuiet
import Derived.WalkSmall
namespace Go.Proofs.Ytceldekbkffhpaa
open Go.RowKit
/-- Nothing that lies in memory has changed. -/
def Still (w w' : World) : Prop := ∀ B, Below B w w'
theorem Still.refl (w : World) : Still w w := fun B => Below.refl B w
theorem Still.drewN {w w' : World} (h : Still w w') (n : Nat) : Still w (w'.drewN n) := fun B => ⟨(h B).os, (h B).tape, (h B).output, (h B).size, (h B).block⟩
theorem Still.cell {w w' : World} (h : Still w w') (a : Addr) : w'.cell? a = w.cell? a := (h (a.block + 1)).cell (by omega)
/-- A slice that reads so, cell by cell. -/
def Reads (w : World) (v : Value) (xs : List Value) : Prop := ∃ A c, v = .slice A xs.length c ∧ xs.length ≤ c ∧ (0 < xs.length → ∃ b off, A = some ⟨b, off, none⟩ ∧ b < w.heap.size ∧ ∀ j, j < xs.length → w.cell? ⟨b, off + j, none⟩ = some (xs.getD j undef))
theorem Reads.below {w w' : World} {v : Value} {xs : List Value} (h : Reads w v xs) (hb : Below w.heap.size w w') : Reads w' v xs := by
  obtain ⟨A, c, rfl, h1, h2⟩ := h
  refine ⟨A, c, rfl, h1, fun h0 => ?_⟩
  obtain ⟨b, off, rfl, hb', hc⟩ := h2 h0
  exact ⟨b, off, rfl, Nat.lt_of_lt_of_le hb' hb.size, fun j hj => (hb.cell (p := ⟨b, off + j, none⟩) hb').trans (hc j hj)⟩
theorem Reads.own {w : World} {base : Nat} {e : TypeId} {v : Value} {xs : List Value} (h : w.ownsRow base e 1 v xs.length xs) : Reads w v xs := by
  have h' := h
  rcases h.2 with ⟨rfl, h0⟩ | ⟨g, cap, cur, rfl, hb, hg, hnc, hcm, hcs, ht⟩
  · exact ⟨none, 0, by rw [h0], by omega, fun h => by omega⟩
  · refine ⟨_, cap, rfl, hnc, fun _ => ⟨g, 0, rfl, lt_of_block hg, fun j hj => ?_⟩⟩
    rw [Nat.zero_add, World.ownsRow.cellAt h' j (by omega)]
    simp [hj]
theorem Reads.lit {w : World} (xs : List Value) (t : TypeId) : Reads (w.alloc (.cells xs.toArray t)) (.slice (some ⟨w.heap.size, 0, none⟩) xs.length xs.length) xs := by
  refine ⟨_, _, rfl, Nat.le_refl _, fun _ => ⟨w.heap.size, 0, rfl, by simp, fun j hj => ?_⟩⟩
  rw [cell_of_row _ _ _ _ _ _ (heap_alloc_new w _), Nat.zero_add]
  simp [hj]
theorem Ints.reads {w : World} {v : Value} {l : List Int} (h : Ints w v l) : Reads w v (l.map (Value.int .i64)) := by
  obtain ⟨A, c, rfl, h1, h2, h3, h4⟩ := h
  refine ⟨A, c, by simp, by simpa using h1, fun h0 => ?_⟩
  obtain ⟨b, off, rfl, hb, hc⟩ := h4 (by simpa using h0)
  refine ⟨b, off, rfl, hb, fun j hj => ?_⟩
  have hj' : j < l.length := by simpa using hj
  rw [hc j hj']
  simp [List.getD, hj']
set_option maxRecDepth 100000 in
set_option maxHeartbeats 1000000 in
theorem sameInts_any (va vb : Value) (l : List Int) (w : World) (ha : Reads w va (l.map (Value.int .i64))) (hb : Reads w vb (l.map (Value.int .i64))) (hl : l.length ≤ 1000000) :
    Calls Try.prog 10 #[va, vb] w fun e w' => e = .returned (.bool true) ∧ Below w.heap.size w w' := by
  obtain ⟨A, ca, rfl, hca, hA⟩ := ha
  obtain ⟨A', cb, rfl, hcb, hA'⟩ := hb
  rw [List.length_map] at hA hA' hca hcb ⊢
  have HA := Lib.hid hA
  have HB := Lib.hid hA'
  clear hA hA'
  go_enter Try.func10, Try.ntmps10
  go_wp2
  go_loopw [5] (fun i wr => ∃ k : Nat, k ≤ l.length ∧ i = .int .i64 k ∧ Still w wr) (fun i _ => l.length - (intOf i).toNat)
  case atStart => exact ⟨0, Nat.zero_le _, rfl, Still.refl _⟩
  case round =>
    obtain ⟨k, hk, rfl, hst⟩ := hrel
    by_cases hlt : k < l.length
    · obtain ⟨b1, o1, rfl, _, c1⟩ := HA.out (by omega)
      obtain ⟨b2, o2, rfl, _, c2⟩ := HB.out (by omega)
      have d1 := (hst.cell ⟨b1, o1 + k, none⟩).trans (c1 k hlt)
      have d2 := (hst.cell ⟨b2, o2 + k, none⟩).trans (c2 k hlt)
      rw [show (l.map (Value.int .i64)).getD k undef = Value.int .i64 (l.getD k 0) from by simp [List.getD, hlt]] at d1 d2
      clear c1 c2
      generalize l.getD k 0 = n at *
      go_wp2
      go_quiet (fail)
      go_wp2
      go_roundw
      case rel => exact ⟨k + 1, by omega, by go_num, hst.drewN _⟩
      case measure => simp [intOf]; omega
    · go_wp2
      go_ret
      exact ⟨rfl, hst _⟩
set_option maxRecDepth 100000 in
set_option maxHeartbeats 1000000 in
theorem sameTexts_any (va vb : Value) (l : List ByteArray) (w : World) (ha : Reads w va (l.map Value.string)) (hb : Reads w vb (l.map Value.string)) (hl : l.length ≤ 1000000) :
    Calls Try.prog 15 #[va, vb] w fun e w' => e = .returned (.bool true) ∧ Below w.heap.size w w' := by
  obtain ⟨A, ca, rfl, hca, hA⟩ := ha
  obtain ⟨A', cb, rfl, hcb, hA'⟩ := hb
  rw [List.length_map] at hA hA' hca hcb ⊢
  have HA := Lib.hid hA
  have HB := Lib.hid hA'
  clear hA hA'
  go_enter Try.func15, Try.ntmps15
  go_wp2
  go_loopw [5] (fun i wr => ∃ k : Nat, k ≤ l.length ∧ i = .int .i64 k ∧ Still w wr) (fun i _ => l.length - (intOf i).toNat)
  case atStart => exact ⟨0, Nat.zero_le _, rfl, Still.refl _⟩
  case round =>
    obtain ⟨k, hk, rfl, hst⟩ := hrel
    by_cases hlt : k < l.length
    · obtain ⟨b1, o1, rfl, _, c1⟩ := HA.out (by omega)
      obtain ⟨b2, o2, rfl, _, c2⟩ := HB.out (by omega)
      have d1 := (hst.cell ⟨b1, o1 + k, none⟩).trans (c1 k hlt)
      have d2 := (hst.cell ⟨b2, o2 + k, none⟩).trans (c2 k hlt)
      rw [show (l.map Value.string).getD k undef = Value.string (l.getD k ⟨#[]⟩) from by simp [List.getD, hlt]] at d1 d2
      clear c1 c2
      generalize l.getD k ⟨#[]⟩ = t at *
      go_wp2
      go_quiet (fail)
      go_wp2
      go_roundw
      case rel => exact ⟨k + 1, by omega, by go_num, hst.drewN _⟩
      case measure => simp [intOf]; omega
    · go_wp2
      go_ret
      exact ⟨rfl, hst _⟩
/-- A disk that was made behind 'w0', and all that was before is as it was. -/
def Live (w0 : World) (d : Nat) (D : Dsk.Dk) (w : World) : Prop := ∃ S, IsDisk w d D S ∧ (∀ k, S k → w0.heap.size ≤ k) ∧ Below w0.heap.size w0 w
section
variable {w0 w w' : World} {d : Nat} {D : Dsk.Dk} {R : Dsk.Dk × Int} {r : Int} {S : Nat → Prop}
theorem Live.below (h : Live w0 d D w) (hb : Below w.heap.size w w') : Live w0 d D w' := by
  obtain ⟨S, h1, h2, h3⟩ := h
  exact ⟨S, h1.below hb, h2, h3.trans (hb.mono h3.size)⟩
theorem Live.did (h2 : ∀ k, S k → w0.heap.size ≤ k) (h3 : Below w0.heap.size w0 w) (hd : Did w d S R r w') : r = R.2 ∧ Live w0 d R.1 w' := by
  obtain ⟨e, S', i, f, k'⟩ := hd
  refine ⟨e, S', i, fun k hk => ?_, h3.trans (f.below fun k hk => ⟨Nat.lt_of_lt_of_le hk h3.size, fun hs => by have := h2 k hs; omega⟩)⟩
  rcases k' k hk with h | h
  · exact h2 k h
  · exact Nat.le_trans h3.size h
theorem Live.call {f : FuncId} {args : Array Value} (h : Live w0 d D w) (hc : ∀ S, IsDisk w d D S → Calls Try.prog f args w (AnyRet (Did w d S R))) : Calls Try.prog f args w fun e w' => e = .returned (.int .i64 R.2) ∧ Live w0 d R.1 w' := by
  obtain ⟨S, h1, h2, h3⟩ := h
  refine (hc S h1).mono ?_
  rintro e w' ⟨r, rfl, hd⟩
  obtain ⟨rfl, hl⟩ := Live.did h2 h3 hd
  exact ⟨rfl, hl⟩
end
end Go.Proofs.Ytceldekbkffhpaa
