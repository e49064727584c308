/-
  works of the statements' package returns true.
-/
import Derived.Test.YtceldekbkffhpaaDSame
namespace Go.Proofs.Ytceldekbkffhpaa
open Go.RowKit
namespace Dsk
def nB : ByteArray := ⟨#[98]⟩
def nA : ByteArray := ⟨#[97]⟩
theorem ex1 : append (new 10) ⟨#[98]⟩ ⟨#[120, 121, 122]⟩ = (⟨10, [⟨⟨#[98]⟩, [120, 121, 122], 0⟩], false, 0, none⟩, 0) := by kernel_rfl
theorem ex2 : sync ⟨10, [⟨⟨#[98]⟩, [120, 121, 122], 0⟩], false, 0, none⟩ ⟨#[98]⟩ = (⟨10, [⟨⟨#[98]⟩, [120, 121, 122], 3⟩], false, 0, none⟩, 0) := by kernel_rfl
theorem ex3 : append ⟨10, [⟨⟨#[98]⟩, [120, 121, 122], 3⟩], false, 0, none⟩ ⟨#[98]⟩ ⟨#[117, 118]⟩ = (⟨10, [⟨⟨#[98]⟩, [120, 121, 122, 117, 118], 3⟩], false, 0, none⟩, 0) := by kernel_rfl
theorem ex4 : append ⟨10, [⟨⟨#[98]⟩, [120, 121, 122, 117, 118], 3⟩], false, 0, none⟩ ⟨#[97]⟩ ⟨#[49, 50, 51, 52, 53]⟩ = (⟨10, [⟨⟨#[97]⟩, [49, 50, 51, 52, 53], 0⟩, ⟨⟨#[98]⟩, [120, 121, 122, 117, 118], 3⟩], false, 0, none⟩, 0) := by kernel_rfl
theorem ex5 : append ⟨10, [⟨⟨#[97]⟩, [49, 50, 51, 52, 53], 0⟩, ⟨⟨#[98]⟩, [120, 121, 122, 117, 118], 3⟩], false, 0, none⟩ ⟨#[97]⟩ ⟨#[54]⟩ = (⟨10, [⟨⟨#[97]⟩, [49, 50, 51, 52, 53], 0⟩, ⟨⟨#[98]⟩, [120, 121, 122, 117, 118], 3⟩], false, 0, none⟩, 40) := by kernel_rfl
theorem ex6 : crash ⟨10, [⟨⟨#[97]⟩, [49, 50, 51, 52, 53], 0⟩, ⟨⟨#[98]⟩, [120, 121, 122, 117, 118], 3⟩], false, 0, none⟩ [3, 1] = (⟨10, [⟨⟨#[97]⟩, [49, 50, 51], 3⟩, ⟨⟨#[98]⟩, [120, 121, 122, 117], 4⟩], true, 0, none⟩, 0) := by kernel_rfl
theorem ex7 : read ⟨10, [⟨⟨#[97]⟩, [49, 50, 51], 3⟩, ⟨⟨#[98]⟩, [120, 121, 122, 117], 4⟩], true, 0, none⟩ ⟨#[98]⟩ = ([], 41) := by kernel_rfl
theorem ex8 : start ⟨10, [⟨⟨#[97]⟩, [49, 50, 51], 3⟩, ⟨⟨#[98]⟩, [120, 121, 122, 117], 4⟩], true, 0, none⟩ = (⟨10, [⟨⟨#[97]⟩, [49, 50, 51], 3⟩, ⟨⟨#[98]⟩, [120, 121, 122, 117], 4⟩], false, 1, none⟩, 0) := by kernel_rfl
theorem ex9 : read ⟨10, [⟨⟨#[97]⟩, [49, 50, 51], 3⟩, ⟨⟨#[98]⟩, [120, 121, 122, 117], 4⟩], false, 1, none⟩ ⟨#[98]⟩ = ([120, 121, 122, 117], 0) := by kernel_rfl
theorem ex10 : failSet ⟨10, [⟨⟨#[97]⟩, [49, 50, 51], 3⟩, ⟨⟨#[98]⟩, [120, 121, 122, 117], 4⟩], false, 1, none⟩ 1 [0, 1] = (⟨10, [⟨⟨#[97]⟩, [49, 50, 51], 3⟩, ⟨⟨#[98]⟩, [120, 121, 122, 117], 4⟩], false, 1, some (1, [0, 1])⟩, 0) := by kernel_rfl
theorem ex11 : append ⟨10, [⟨⟨#[97]⟩, [49, 50, 51], 3⟩, ⟨⟨#[98]⟩, [120, 121, 122, 117], 4⟩], false, 1, some (1, [0, 1])⟩ ⟨#[98]⟩ ⟨#[113]⟩ = (⟨10, [⟨⟨#[97]⟩, [49, 50, 51], 3⟩, ⟨⟨#[98]⟩, [120, 121, 122, 117, 113], 4⟩], false, 1, some (0, [0, 1])⟩, 0) := by kernel_rfl
theorem ex12 : append ⟨10, [⟨⟨#[97]⟩, [49, 50, 51], 3⟩, ⟨⟨#[98]⟩, [120, 121, 122, 117, 113], 4⟩], false, 1, some (0, [0, 1])⟩ ⟨#[98]⟩ ⟨#[114, 115]⟩ = (⟨10, [⟨⟨#[97]⟩, [49, 50, 51], 3⟩, ⟨⟨#[98]⟩, [120, 121, 122, 117, 113], 5⟩], true, 1, none⟩, 41) := by kernel_rfl
theorem ex13 : start ⟨10, [⟨⟨#[97]⟩, [49, 50, 51], 3⟩, ⟨⟨#[98]⟩, [120, 121, 122, 117, 113], 5⟩], true, 1, none⟩ = (⟨10, [⟨⟨#[97]⟩, [49, 50, 51], 3⟩, ⟨⟨#[98]⟩, [120, 121, 122, 117, 113], 5⟩], false, 2, none⟩, 0) := by kernel_rfl
theorem ex14 : read ⟨10, [⟨⟨#[97]⟩, [49, 50, 51], 3⟩, ⟨⟨#[98]⟩, [120, 121, 122, 117, 113], 5⟩], false, 2, none⟩ ⟨#[98]⟩ = ([120, 121, 122, 117, 113], 0) := by kernel_rfl
end Dsk
section
variable {w0 w w' : World} {d : Nat} {D D' : Dsk.Dk} {R : Dsk.Dk × Int} {r : Int} {S : Nat → Prop}
theorem Live.on {f : FuncId} {args : Array Value} (h : Hid (Live w0 d D w)) (hR : R = (D', r)) (hc : ∀ S, IsDisk w d D S → Calls Try.prog f args w (AnyRet (Did w d S R))) : Calls Try.prog f args w fun e w' => e = .returned (.int .i64 r) ∧ Hid (Live w0 d D' w') := by
  subst hR
  exact Live.call h.out hc
theorem Live.read {nm : ByteArray} {l : List UInt8} (h : Hid (Live w0 d D w)) (hR : Dsk.read D nm = (l, r)) : Calls Try.prog 11 #[.pointer (some ⟨d, 0, none⟩), .string nm] w fun e w' => e = .returned (.tuple #[.string ⟨l.toArray⟩, .int .i64 r]) ∧ Hid (Live w0 d D w') := by
  obtain ⟨S, h1, h2, h3⟩ := h.out
  refine (read_any nm h1).mono ?_
  rintro e w' ⟨rfl, hb⟩
  rw [hR]
  exact ⟨rfl, Live.below ⟨S, h1, h2, h3⟩ hb⟩
theorem Live.unsync (h : Hid (Live w0 d D w)) : Calls Try.prog 14 #[.pointer (some ⟨d, 0, none⟩)] w fun e w' => ∃ A n c, e = .returned (.slice A n c) ∧ Hid (Reads w' (.slice A n c) ((Dsk.unsynced D.fs).map (Value.int .i64))) ∧ Hid (Live w0 d D w') := by
  obtain ⟨S, h1, h2, h3⟩ := h.out
  refine (unsync_any h1).mono ?_
  rintro e w' ⟨v, rfl, ho, hb⟩
  obtain ⟨A, n, c, rfl⟩ := owns_slice ho
  exact ⟨A, n, c, rfl, Reads.own ho, Live.below ⟨S, h1, h2, h3⟩ hb⟩
theorem Live.names (h : Hid (Live w0 d D w)) : Calls Try.prog 13 #[.pointer (some ⟨d, 0, none⟩)] w fun e w' => ∃ A n c, e = .returned (.slice A n c) ∧ Hid (Reads w' (.slice A n c) ((Dsk.names D.fs).map Value.string)) ∧ Hid (Live w0 d D w') := by
  obtain ⟨S, h1, h2, h3⟩ := h.out
  refine (names_any h1).mono ?_
  rintro e w' ⟨v, rfl, ho, hb⟩
  obtain ⟨A, n, c, rfl⟩ := owns_slice ho
  exact ⟨A, n, c, rfl, Reads.own ho, Live.below ⟨S, h1, h2, h3⟩ hb⟩
theorem Live.starts (h : Hid (Live w0 d D w)) : Calls Try.prog 21 #[.pointer (some ⟨d, 0, none⟩)] w fun e w' => e = .returned (.int .i64 (D.starts : Int)) ∧ w = w' := by
  obtain ⟨S, h1, h2, h3⟩ := h.out
  exact starts_any h1
theorem Live.crash {kv : Value} {keep : List Int} (h : Hid (Live w0 d D w)) (hR : Dsk.crash D keep = (D', r)) {W : World} (hb : Below w.heap.size w W) (hk : Ints W kv keep) (hko : ∀ k, kv.ownBlock = some k → w.heap.size ≤ k) : Calls Try.prog 24 #[.pointer (some ⟨d, 0, none⟩), kv] W fun e w' => e = .returned (.int .i64 r) ∧ Hid (Live w0 d D' w') := by
  obtain ⟨S, h1, h2, h3⟩ := h.out
  have hlt : ∀ k, S k → k < w.heap.size := by obtain ⟨_, _, _, _, _, h⟩ := h1; exact h.lt
  refine (crash_any kv keep (h1.below hb) hk (fun k _ e hs => by have := hko k e; have := hlt k hs; omega)).mono ?_
  rintro e w' ⟨r', rfl, hd⟩
  rw [hR] at hd
  obtain ⟨rfl, hl⟩ := Live.did h2 (h3.trans (hb.mono h3.size)) hd
  exact ⟨rfl, hl⟩
theorem lit_ints (w : World) (l : List Int) (h0 : 0 < l.length) (hl : l.length ≤ 1000) (t : TypeId) : Ints (w.alloc (.cells (l.map (Value.int .i64)).toArray t)) (.slice (some ⟨w.heap.size, 0, none⟩) l.length l.length) l := by
  refine ⟨_, _, rfl, Nat.le_refl _, by unfold maxLen; omega, fun e => (by cases e), fun _ => ⟨w.heap.size, 0, rfl, by simp, fun j hj => ?_⟩⟩
  rw [cell_of_row _ _ _ _ _ _ (heap_alloc_new w _), Nat.zero_add]
  simp [hj, List.getD]
end
section
variable {w0 w W : World} {d : Nat} {D : Dsk.Dk} {v : Value} {xs : List Value} {t : TypeId}
theorem Live.same_ints (l : List Int) (h : Hid (Live w0 d D w)) (hr : Hid (Reads w v xs)) (hx : xs = l.map (Value.int .i64)) (hl : l.length ≤ 1000000) (hW : W = w.alloc (.cells (l.map (Value.int .i64)).toArray t)) :
    Calls Try.prog 10 #[v, .slice (some ⟨w.heap.size, 0, none⟩) l.length l.length] W fun e w' => e = .returned (.bool true) ∧ Hid (Live w0 d D w') := by
  subst hx hW
  have hb := (Below.refl w.heap.size w).alloc (Nat.le_refl _) (.cells (l.map (Value.int .i64)).toArray t)
  have hi := Reads.lit (w := w) (l.map (Value.int .i64)) t
  rw [List.length_map] at hi
  refine (sameInts_any _ _ l _ (hr.out.below hb) hi hl).mono ?_
  rintro e w' ⟨rfl, h2⟩
  exact ⟨rfl, (Live.below h.out hb).below h2⟩
theorem Live.same_texts (l : List ByteArray) (h : Hid (Live w0 d D w)) (hr : Hid (Reads w v xs)) (hx : xs = l.map Value.string) (hl : l.length ≤ 1000000) (hW : W = w.alloc (.cells (l.map Value.string).toArray t)) :
    Calls Try.prog 15 #[v, .slice (some ⟨w.heap.size, 0, none⟩) l.length l.length] W fun e w' => e = .returned (.bool true) ∧ Hid (Live w0 d D w') := by
  subst hx hW
  have hb := (Below.refl w.heap.size w).alloc (Nat.le_refl _) (.cells (l.map Value.string).toArray t)
  have hi := Reads.lit (w := w) (l.map Value.string) t
  rw [List.length_map] at hi
  refine (sameTexts_any _ _ l _ (hr.out.below hb) hi hl).mono ?_
  rintro e w' ⟨rfl, h2⟩
  exact ⟨rfl, (Live.below h.out hb).below h2⟩
theorem Live.fail {kv : Value} {keep : List Int} {n r : Int} {D' : Dsk.Dk} (h : Hid (Live w0 d D w)) (hn : n ≤ 9223372036854775807) (hR : Dsk.failSet D n keep = (D', r)) (hb : Below w.heap.size w W) (hk : Ints W kv keep) : Calls Try.prog 26 #[.pointer (some ⟨d, 0, none⟩), .int .i64 n, kv] W fun e w' => e = .returned (.int .i64 r) ∧ Hid (Live w0 d D' w') :=
  Live.on (Live.below h.out hb) hR fun _ h => fail_any kv keep n hn h hk
end
theorem below_alloc (w : World) (o : Obj) : Below w.heap.size w (w.alloc o) := (Below.refl _ _).alloc (Nat.le_refl _) _
set_option maxRecDepth 100000 in
set_option maxHeartbeats 2000000 in
theorem works_any (w : World) : Calls Try.prog 7 #[] w fun e w' => e = .returned (.bool true) ∧ Below w.heap.size w w' := by
  go_enter Try.func7, Try.ntmps7
  go_wp2_with fail
  refine (new_any 10).mono ?_
  rintro e w1 (⟨h, _⟩ | ⟨_, rfl, h1, hb1⟩)
  · exact absurd ⟨by decide, by decide⟩ h
  have L1 : Hid (Live w w.heap.size (Dsk.new 10) w1) := ⟨_, h1, fun k e => by omega, hb1⟩
  clear h1 hb1
  generalize w.heap.size = d at *
  go_wp2_with fail
  refine (Live.on L1 Dsk.ex1 fun S h => append_any _ _ h).mono ?_
  rintro e w2 ⟨rfl, L2⟩
  go_wp2_with fail
  refine (Live.on L2 Dsk.ex2 fun S h => sync_any _ h).mono ?_
  rintro e w3 ⟨rfl, L3⟩
  go_wp2_with fail
  refine (Live.on L3 Dsk.ex3 fun S h => append_any _ _ h).mono ?_
  rintro e w4 ⟨rfl, L4⟩
  go_wp2_with fail
  refine (Live.on L4 Dsk.ex4 fun S h => append_any _ _ h).mono ?_
  rintro e w5 ⟨rfl, L5⟩
  go_wp2_with fail
  refine (Live.on L5 Dsk.ex5 fun S h => append_any _ _ h).mono ?_
  rintro e w6 ⟨rfl, L6⟩
  go_wp2_with fail
  refine (Live.unsync L6).mono ?_
  rintro e w7 ⟨A7, n7, c7, rfl, R7, L7⟩
  go_wp2_with fail
  refine (Live.same_ints [5, 2] L7 R7 (by kernel_rfl) (by decide) rfl).mono ?_
  rintro e w8 ⟨rfl, L8⟩
  clear R7
  go_wp2_with fail
  refine (Live.names L8).mono ?_
  rintro e w9 ⟨A9, n9, c9, rfl, R9, L9⟩
  go_wp2_with fail
  refine (Live.same_texts [⟨#[97]⟩, ⟨#[98]⟩] L9 R9 (by kernel_rfl) (by decide) rfl).mono ?_
  rintro e w10 ⟨rfl, L10⟩
  clear R9 L1 L2 L3 L4 L5 L6 L7 L8 L9
  go_wp2_with fail
  refine (Live.crash (keep := [3, 1]) L10 Dsk.ex6 (below_alloc _ _) (lit_ints _ [3, 1] (by decide) (by decide) _) (fun k e => Nat.le_of_eq (Option.some.inj e))).mono ?_
  rintro e w11 ⟨rfl, L11⟩
  go_wp2_with fail
  refine (Live.read L11 Dsk.ex7).mono ?_
  rintro e w12 ⟨rfl, L12⟩
  go_wp2_with fail
  refine (Live.on L12 Dsk.ex8 fun S h => start_any h (by decide)).mono ?_
  rintro e w13 ⟨rfl, L13⟩
  go_wp2_with fail
  refine (Live.read L13 Dsk.ex9).mono ?_
  rintro e w14 ⟨rfl, L14⟩
  clear L10 L11 L12 L13
  go_wp2_with fail
  refine (Live.fail (keep := [0, 1]) L14 (by decide) Dsk.ex10 (below_alloc _ _) (lit_ints _ [0, 1] (by decide) (by decide) _)).mono ?_
  rintro e w15 ⟨rfl, L15⟩
  go_wp2_with fail
  refine (Live.on L15 Dsk.ex11 fun S h => append_any _ _ h).mono ?_
  rintro e w16 ⟨rfl, L16⟩
  go_wp2_with fail
  refine (Live.on L16 Dsk.ex12 fun S h => append_any _ _ h).mono ?_
  rintro e w17 ⟨rfl, L17⟩
  go_wp2_with fail
  refine (Live.on L17 Dsk.ex13 fun S h => start_any h (by decide)).mono ?_
  rintro e w18 ⟨rfl, L18⟩
  go_wp2_with fail
  refine (Live.read L18 Dsk.ex14).mono ?_
  rintro e w19 ⟨rfl, L19⟩
  clear L14 L15 L16 L17 L18
  go_wp2_with fail
  refine (Live.starts L19).mono ?_
  rintro e w20 ⟨rfl, rfl⟩
  go_wp2_with fail
  go_ret
  obtain ⟨_, _, _, hb⟩ := L19.out
  exact ⟨rfl, hb⟩
end Go.Proofs.Ytceldekbkffhpaa
