/-
  Contracts of Whole of package frames, and of the document's answer: what they tell is what stands one behind the other, in memory of their own.
-/
import Derived.Test.YtkiccfnmnfeapaaFRNext
namespace Go.Proofs.Ytkiccfnmnfeapaa
open Go.RowKit
open Crc
def textV (t : List UInt8) : Value := .string ⟨t.toArray⟩
/-- A row of the call's own, of these texts. -/
def textRow (w : World) (base : Nat) (v : Value) (ls : List (List UInt8)) : Prop := w.ownsRow base 9 1 v ls.length (ls.map textV)
theorem Try.info_str : (Try.prog.info? 9).map (fun i => (i.zero, i.size, i.bytes)) = some (some (.string ⟨#[]⟩), 1, 16) := by kernel_rfl
theorem row_snoc {w : World} {base : Nat} {v : Value} {ls : List (List UInt8)} {t : List UInt8} (h : w.ownsRow base 9 1 v (ls.length + 1) (ls.map textV ++ [.string ⟨t.toArray⟩])) : textRow w base v (ls ++ [t]) := by
  unfold textRow
  rw [List.length_append, List.map_append]
  simpa [textV] using h
theorem textRow.keep {w w' : World} {base : Nat} {v : Value} {ls : List (List UInt8)} (h : textRow w base v ls) (hb : Below w.heap.size w w') : textRow w' base v ls :=
  World.ownsRow.kept (row := none) h ⟨hb.os, hb.tape, hb.output, hb.size, fun k hk _ => hb.block k hk⟩ (by
    rcases hv : v.ownBlock with _ | g
    · exact .inl rfl
    · exact .inr (by simp))
def WholePost (l : List UInt8) (w : World) (e : Ending) (w' : World) : Prop := ∃ ps k v, e = .returned (.tuple #[v, .int .i64 (k : Nat)]) ∧ IsWhole l ps k ∧ textRow w' w.heap.size v ps ∧ Below w.heap.size w w'
/-- How far it has come. -/
def Thus (l : List UInt8) (ps : List (List UInt8)) : Prop := Small ps ∧ ∃ y, l = flat ps ++ y
theorem Thus.start (l : List UInt8) : Thus l [] := ⟨fun p hp => (by cases hp), l, rfl⟩
theorem Thus.next {l : List UInt8} {ps : List (List UInt8)} {p : List UInt8} {q : Nat} (h : Thus l ps) (hn : nextOf l ((flat ps).length : Nat) = some (p, q)) : Thus l (ps ++ [p]) ∧ q = (flat (ps ++ [p])).length ∧ (flat ps).length < q ∧ q ≤ l.length := by
  obtain ⟨h1, y, rfl⟩ := h
  have hb := next_bd hn
  obtain ⟨h2, h3, z, rfl⟩ := next_some hn
  refine ⟨⟨h1.snoc h2, z, by rw [flat_snoc, List.append_assoc]⟩, by rw [flat_snoc, List.length_append, h3], by omega, by omega⟩
theorem Thus.done {l : List UInt8} {ps : List (List UInt8)} (h : Thus l ps) (hn : nextOf l ((flat ps).length : Nat) = none) : IsWhole l ps (flat ps).length := by
  obtain ⟨h1, y, rfl⟩ := h
  refine ⟨h1, rfl, y, rfl, ?_⟩
  rcases hy : nextOf y 0 with _ | ⟨p, q⟩
  · rfl
  · exfalso
    have hy' : nextOf ([] ++ y) ((([] : List UInt8).length : Nat) : Int) = some (p, q) := hy
    obtain ⟨h2, _, z, rfl⟩ := next_some hy'
    rw [next_at h2] at hn
    cases hn
theorem Thus.many {l : List UInt8} {ps : List (List UInt8)} (h : Thus l ps) : 5 * ps.length ≤ (flat ps).length ∧ (flat ps).length ≤ l.length := by
  obtain ⟨h1, y, rfl⟩ := h
  refine ⟨?_, by simp⟩
  clear y
  induction ps with
  | nil => simp
  | cons p ps ih =>
    have := ih (fun q hq => h1 q (by simp [hq]))
    have hm := mark_bd (n := (p.length : Int)) (by omega) (by have := h1 p (by simp); omega)
    rw [flat_cons, List.length_append, frame_len, List.length_cons]
    omega
def NextVals : Option (List UInt8 × Nat) → Value → Value → Value → Prop
  | some (p, q), a, b, c => a = .string ⟨p.toArray⟩ ∧ b = .int .i64 q ∧ c = .bool true
  | none, a, b, c => a = .string ⟨#[]⟩ ∧ b = .int .i64 0 ∧ c = .bool false
theorem next_vals (g : Option (List UInt8 × Nat)) : ∃ a b c, nextR g = .tuple #[a, b, c] ∧ NextVals g a b c := by rcases g with _ | ⟨p, q⟩ <;> exact ⟨_, _, _, rfl, rfl, rfl, rfl⟩
set_option maxRecDepth 100000 in
set_option maxHeartbeats 1000000 in
theorem whole_any (s : ByteArray) (w : World) (hs : s.size ≤ 1000000) :
    Calls Try.prog 15 #[.string s] w (WholePost (bytesOf s) w) := by
  obtain ⟨i0, hi, hz0, hz1, hz2⟩ := info_parts Try.info_str
  go_enter Try.func15, Try.ntmps15
  go_wp2_with fail
  refine (next_any _ _ _ (by omega)).mono ?_
  rintro e w1 ⟨hb1, he⟩
  obtain ⟨va, vb, vc, hr, hv⟩ := next_vals (nextOf (bytesOf s) 0)
  rw [hr] at he
  subst he
  clear hr
  go_wp2_with fail
  go_loopw [2, 3, 4, 5, 6] (fun b en p nx ok wr => ∃ (ps : List (List UInt8)) (g : Option (List UInt8 × Nat)), Thus (bytesOf s) ps ∧ nextOf (bytesOf s) ((flat ps).length : Nat) = g ∧ en = .int .i64 ((flat ps).length : Nat) ∧ NextVals g p nx ok ∧ textRow wr w.heap.size b ps ∧ Below w.heap.size w wr) (fun _ en _ _ _ _ => s.size - (intOf en).toNat)
  case atStart => exact ⟨[], _, Thus.start _, rfl, rfl, hv, World.ownsRow_nil _ _ _ _, hb1⟩
  case round =>
    obtain ⟨ps, g, hth, hg, rfl, hvals, hrow, hbel⟩ := hrel
    clear hv
    have hsz := hbel.size
    rcases g with _ | ⟨p, q⟩
    · have HD := Lib.hid (hth.done hg)
      have HR := Lib.hid hrow
      obtain ⟨rfl, rfl, rfl⟩ := hvals
      clear hth hg hrow
      go_wp2_with fail
      go_ret2
      exact ⟨ps, _, _, rfl, HD.out, HR.out, hbel⟩
    · obtain ⟨h1, h2, h3, h4⟩ := hth.next hg
      have hmany := hth.many
      rw [bytes_len] at h4 hmany
      have H1 := Lib.hid h1
      have H2 := Lib.hid h2
      have HN := Lib.hid (next_any s (q : Int) · (by omega))
      clear hth hg h1 h2
      obtain ⟨rfl, rfl, rfl⟩ := hvals
      generalize (flat ps).length = m at *
      go_wp2_with (at_builtin; (refine wpList_append_own _ rfl _ _ 30 rfl w.heap.size 9 i0 (.string ⟨#[]⟩) 1 16 Try.underlying30 hi hz0 hz1 hz2 rfl (by decide) _ _ _ rfl (World.ownsRow.alloc hrow _) ⟨wr.heap.size, 0, none⟩ 1 1 [.string ⟨p.toArray⟩] rfl rfl (cell_one_new _ _ _) (fun x hx => by simp at hx; subst hx; rfl) (by unfold maxLen; omega) (by omega) (by simp; omega) ?_); intro v' w3 hown' hgrow3 hnil3)
      have hb3 := (hbel.alloc hsz (.cells #[.string ⟨p.toArray⟩] 9)).grown hgrow3 (by simp; omega) (fun q hq => (World.ownsRow.lt hrow q hq).1)
      have HR := Lib.hid (row_snoc hown')
      clear hrow hown' hgrow3 hnil3
      refine (HN.out _).mono ?_
      rintro e w4 ⟨hb4, he⟩
      obtain ⟨va', vb', vc', hr, hv⟩ := next_vals (nextOf (bytesOf s) q)
      rw [hr] at he
      subst he
      clear hr
      have hb5 := hb3.trans (hb4.mono hb3.size)
      go_wp2_with fail
      go_roundw
      case rel => exact ⟨ps ++ [p], _, H1.out, rfl, by rw [← H2.out], by rw [← H2.out]; exact hv, textRow.keep HR.out hb4, hb5⟩
      case measure => simp [intOf]; omega
set_option maxRecDepth 100000 in
set_option maxHeartbeats 1000000 in
theorem rwhole_any (s : ByteArray) (w : World) (hs : s.size ≤ 1000000) :
    Calls Try.prog 16 #[.string s] w (WholePost (bytesOf s) w) := by
  obtain ⟨i0, hi, hz0, hz1, hz2⟩ := info_parts Try.info_str
  go_enter Try.func16, Try.ntmps16
  go_wp2_with fail
  go_loopw [4, 5] (fun b en wr => ∃ (ps : List (List UInt8)), Thus (bytesOf s) ps ∧ en = .int .i64 ((flat ps).length : Nat) ∧ textRow wr w.heap.size b ps ∧ Below w.heap.size w wr) (fun _ en _ => s.size - (intOf en).toNat)
  case atStart => exact ⟨[], Thus.start _, rfl, World.ownsRow_nil _ _ _ _, Below.refl _ _⟩
  case round =>
    obtain ⟨ps, hth, rfl, hrow, hbel⟩ := hrel
    have hsz := hbel.size
    rcases hg : nextOf (bytesOf s) ((flat ps).length : Nat) with _ | ⟨p, q⟩
    · have HD := Lib.hid (hth.done hg)
      have HR := Lib.hid hrow
      have HG := Lib.hid hg
      clear hth hg hrow
      go_wp2_with fail
      refine (rnext_any _ _ _ (by omega)).mono ?_
      rintro e w4 ⟨hb4, he⟩
      rw [HG.out] at he
      simp only [nextR] at he
      subst he
      go_wp2_with fail
      go_ret2
      exact ⟨ps, _, _, rfl, HD.out, textRow.keep HR.out hb4, hbel.trans (hb4.mono hsz)⟩
    · obtain ⟨h1, h2, h3, h4⟩ := hth.next hg
      have hmany := hth.many
      rw [bytes_len] at h4 hmany
      have H1 := Lib.hid h1
      have H2 := Lib.hid h2
      have HG := Lib.hid hg
      have HN := Lib.hid (rnext_any s ((flat ps).length : Nat) · (by omega))
      have HR0 := Lib.hid hrow
      clear hth hg h1 h2 hrow
      rw [HG.out] at HN
      clear HG
      generalize (flat ps).length = m at *
      go_wp2_with fail
      refine (HN.out _).mono ?_
      rintro e w4 ⟨hb4, he⟩
      simp only [nextR] at he
      subst he
      have hb5 := hbel.trans (hb4.mono hsz)
      have hsz5 := hb5.size
      have hrow := textRow.keep HR0.out hb4
      clear hbel HR0
      go_wp2_with (at_builtin; (refine wpList_append_own _ rfl _ _ 30 rfl w.heap.size 9 i0 (.string ⟨#[]⟩) 1 16 Try.underlying30 hi hz0 hz1 hz2 rfl (by decide) _ _ _ rfl (World.ownsRow.alloc hrow _) ⟨w4.heap.size, 0, none⟩ 1 1 [.string ⟨p.toArray⟩] rfl rfl (cell_one_new _ _ _) (fun x hx => by simp at hx; subst hx; rfl) (by unfold maxLen; omega) (by omega) (by simp; omega) ?_); intro v' w3 hown' hgrow3 hnil3)
      have hb3 := (hb5.alloc hsz5 (.cells #[.string ⟨p.toArray⟩] 9)).grown hgrow3 (by simp; omega) (fun q hq => (World.ownsRow.lt hrow q hq).1)
      have HR := Lib.hid (row_snoc hown')
      clear hrow hown' hgrow3 hnil3
      go_roundw
      case rel => exact ⟨ps ++ [p], H1.out, by rw [← H2.out], HR.out, hb3⟩
      case measure => simp [intOf]; omega
end Go.Proofs.Ytkiccfnmnfeapaa
