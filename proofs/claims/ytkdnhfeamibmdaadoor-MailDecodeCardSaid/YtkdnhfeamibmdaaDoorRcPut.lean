/-
  What Encode of package records puts: ints, an entry, a spot, behind what a builder has.
-/
import Derived.Test.YtkdnhfeamibmdaaDoorRcBuild
import Derived.Test.YtkdnhfeamibmdaaDoorRcMem
import Derived.Test.YtkdnhfeamibmdaaDoorORMay
import Derived.Shelf.Abstract
namespace Go.Proofs.YtkdnhfeamibmdaaDoor
open Go.RowKit
theorem below_grown {w w' : World} (h : Below w.heap.size w w') : w.grownBy w' none := ⟨h.os, h.tape, h.output, h.size, fun k hk _ => h.block k hk⟩
theorem Bld.later {B b : Nat} {l : List UInt8} {w w' : World} (h : Bld B b l w) (hb : Below w.heap.size w w') : Bld B b l w' := by
  have go : ∀ p, Lib.BuilderAtF 56 5 B b p (Lib.byteCells l) w → Lib.BuilderAtF 56 5 B b p (Lib.byteCells l) w' := by
    intro p h
    have hlt := h.lt
    obtain ⟨hB, v, hk, hown, hne⟩ := h
    exact ⟨hB, v, (hb.block b hlt).trans hk, hown.kept (below_grown hb) (by cases hv : v.ownBlock <;> simp), hne⟩
  exact h.elim (fun h => .inl (go _ h)) (fun h => .inr (go _ h))
theorem Bld.lt {B b : Nat} {l : List UInt8} {w : World} (h : Bld B b l w) : b < w.heap.size := h.elim (fun h => h.lt) (fun h => h.lt)
theorem Bld.le {B b : Nat} {l : List UInt8} {w : World} (h : Bld B b l w) : B ≤ b := h.elim (fun h => h.1) (fun h => h.1)
theorem bld_made {B : Nat} (w : World) (hB : B ≤ w.heap.size) : Bld B w.heap.size [] (w.alloc (.cells #[.pointer none, .slice none 0 0] 56)) :=
  .inl ⟨hB, .slice none 0 0, heap_alloc_new _ _, World.ownsRowF_of (World.ownsRow_nil _ _ _ _), by simp [Value.ownBlock]⟩
theorem BKept.refl (b : Nat) (w : World) : BKept b w w := Lib.OthersKept.refl _ _ _
theorem BKept.trans {b : Nat} {w w' w'' : World} (h : BKept b w w') (k : BKept b w' w'') : BKept b w w'' := Lib.OthersKept.trans h k
theorem BKept.below {b : Nat} {w w' : World} (h : Below w.heap.size w w') : BKept b w w' := fun k _ hk _ _ => (h.block k (Array.getElem?_eq_some_iff.1 hk).1).trans hk
/-- A block that is no row of bytes, and not the builder. -/
theorem BKept.at_ {b k : Nat} {w w' : World} {cs : Array Value} {t : TypeId} {fz : Nat × Nat} (h : BKept b w w') (hk : w.heap[k]? = some (.cells cs t fz)) (hb : k ≠ b) (ht : t ≠ 5) : w'.heap[k]? = some (.cells cs t fz) :=
  h k _ hk (fun e => hb (Option.some.inj e)) (fun c f e => by injection e with _ e _; exact ht e)
def IntRow (w : World) (g : Nat) (ns : List Int) : Prop := w.heap[g]? = some (.cells (ns.map (Value.int .i64)).toArray 3 (0, 0))
theorem IntRow.cell {w : World} {g k : Nat} {ns : List Int} (h : IntRow w g ns) (hk : k < ns.length) : w.cell? ⟨g, k, none⟩ = some (.int .i64 ns[k]) := by
  rw [Lib.cell_of_heap h]; simp [hk]
/-- What a call that puts leaves: the builder has these bytes; all that is neither it nor a row of bytes is as it was. -/
def PcPost (B b : Nat) (l : List UInt8) (w : World) (e : Ending) (w' : World) : Prop := e = .returned (.tuple #[]) ∧ Bld B b l w' ∧ Below B w w' ∧ BKept b w w'
def StrPost (S : ByteArray) (w : World) (e : Ending) (w' : World) : Prop := e = .returned (.string S) ∧ Below w.heap.size w w'
theorem markL_take {ns : List Int} {k : Nat} (hk : k < ns.length) : markL (ns.take (k + 1)) = markL (ns.take k) ++ mark ns[k] := by
  rw [List.take_succ_eq_append_getElem hk, markL_append, markL_one]
theorem markL_take_le (ns : List Int) (k : Nat) : (markL (ns.take k)).length ≤ (markL ns).length := by
  have h : markL ns = markL (ns.take k) ++ markL (ns.drop k) := by rw [← markL_append, List.take_append_drop]
  rw [h, List.length_append]; omega
set_option maxRecDepth 100000 in
set_option maxHeartbeats 1000000 in
theorem put_clo {B b g : Nat} {l : List UInt8} {ns : List Int} {w : World} (h : Bld B b l w) (hr : IntRow w g ns) (hg : g ≠ b) (hi : IntsOk ns) (hn : ns.length ≤ 1000) (hlen : l.length ≤ 1000000) (hBw : B ≤ w.heap.size) :
    Calls Tryd.prog 24 #[.slice (some ⟨g, 0, none⟩) ns.length ns.length, .pointer (some ⟨b, 0, none⟩)] w (PcPost B b (l ++ markL ns) w) := by
  have HR := Lib.hid hr
  have HI := Lib.hid hi
  have HG := Lib.hid hg
  have HML := Lib.hid (fun k => Nat.le_trans (markL_take_le ns k) (markL_len hi).2)
  have HB := Lib.hid h
  clear h hr hi hg
  go_enter Tryd.func24, Tryd.ntmps24
  go_wp2_with fail
  go_loopw [7] (fun i wr => ∃ k : Nat, k ≤ ns.length ∧ i = .int .i64 k ∧ Bld B b (l ++ markL (ns.take k)) wr ∧ Below B w wr ∧ BKept b w wr) (fun i _ => ns.length - (intOf i).toNat)
  case atStart => exact ⟨0, Nat.zero_le _, rfl, by simpa [markL] using HB.out, Below.refl _ _, BKept.refl _ _⟩
  case round =>
    obtain ⟨k, hk, rfl, hbl, hbel, hkp⟩ := hrel
    by_cases hlt : k < ns.length
    · have hc := (show IntRow wr g ns from hkp.at_ HR.out HG.out (by decide)).cell hlt
      have hii : (k : Int) < (ns.length : Int) := by omega
      have hb := HI.out ns[k] (List.getElem_mem hlt)
      have HT := Lib.hid (markL_take hlt)
      have hml := HML.out k
      obtain ⟨S, hS, lS⟩ := mark_name hb.1 hb.2
      have G1 : Hid (∀ X, Calls Tryd.prog 26 #[.int .i64 ns[k]] X (StrPost S X)) := fun X => (put_any ns[k] X hb.1 hb.2).mono fun e w' h => by rw [hS.out]; exact h
      have HS : Hid (S.data.toList = mark ns[k]) := by show _ = _; rw [hS.out]
      generalize ns[k] = x at *
      have HBL := Lib.hid hbl
      have HBE := Lib.hid hbel
      have HKP := Lib.hid hkp
      clear hbl hbel hkp hS hb
      go_wp2_with fail
      refine (G1.out _).mono ?_
      rintro e w1 ⟨rfl, hb1⟩
      have hsz := hb1.size
      have hsb := HBE.out.size
      have HB1 := Lib.hid (HBL.out.later hb1)
      have HK1 := Lib.hid (HKP.out.trans (BKept.below hb1))
      have HE1 := Lib.hid (HBE.out.trans (hb1.mono (by omega)))
      clear hb1
      go_wp2_with fail
      refine (writeString_any B b _ S w1 HB1.out (by rw [List.length_append]; omega) (by omega)).mono ?_
      rintro e w2 ⟨rfl, hb2, he2, hk2⟩
      have HB2 := Lib.hid hb2
      have HE2 := Lib.hid (HE1.out.trans he2)
      have HK2 := Lib.hid (HK1.out.trans hk2)
      clear hb2 he2 hk2
      go_wp2_with fail
      go_roundw
      case rel => exact ⟨k + 1, by omega, by go_num, by rw [HT.out, ← HS.out, ← List.append_assoc]; exact HB2.out, HE2.out, HK2.out⟩
      case measure => simp [intOf]; omega
    · have HX : Hid (l ++ markL (ns.take k) = l ++ markL ns) := by show _ = _; rw [List.take_of_length_le (by omega)]
      have HBL := Lib.hid hbl
      clear hbl
      go_wp2_with fail
      go_end0
      exact ⟨rfl, HX.out ▸ HBL.out, hbel, hkp⟩
end Go.Proofs.YtkdnhfeamibmdaaDoor
