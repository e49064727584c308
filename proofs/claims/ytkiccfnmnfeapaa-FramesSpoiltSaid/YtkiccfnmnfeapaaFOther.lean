/-
  Bytes of a row of the call's own ('[]byte(s)', written, 'string(b)'), and what a byte that is another one makes of frames.
-/
import Derived.Test.YtkiccfnmnfeapaaFramesTornWalk
import Derived.Laws.IdiomStrings
import Derived.Below
namespace Go.Proofs.Ytkiccfnmnfeapaa
open Go.RowKit
open Crc
/-- The bytes l lie in block b, from its head on, and may be written. -/
def BytesAt (W : World) (b : Nat) (l : List UInt8) : Prop := ∀ (j : Nat) (h : j < l.length), W.cell? ⟨b, j, none⟩ = some (.int .u8 (l[j].toNat : Int)) ∧ W.frozen? ⟨b, j, none⟩ = false
theorem bytes_made (s : ByteArray) (w : World) : ∃ (cap : Nat) (W : World), (convert 9 39 (.string s)).run Try.prog w = .ok (.slice (some ⟨w.heap.size, 0, none⟩) s.size cap) W ∧ s.size ≤ cap ∧ Below w.heap.size w W ∧ BytesAt W w.heap.size (tx s) := by
  refine ⟨_, _, run_bytes_of_string w 9 39 5 s Try.underlying9 Try.underlying39 Try.underlying5, ?_, ?_, ?_⟩
  · have := grownCap_ge w s.size 0 5; omega
  · exact ((Below.refl _ w).drew).alloc (by simp) _
  · intro j hj
    have hj' : j < s.data.size := hj
    have hz : j < (bytesRow s (grownCap w s.size 0 5)).size := by have hx : s.data.size = s.size := rfl; unfold bytesRow; simp; omega
    constructor
    · have := World.cell?_alloc_mark w.drew (bytesRow s (grownCap w s.size 0 5)) 5 ((bytesRow s (grownCap w s.size 0 5)).size, (bytesRow s (grownCap w s.size 0 5)).size + 1) j
      rw [bytesRow_at s _ j hj'] at this
      exact this
    · have := World.frozen?_alloc_mark w.drew (bytesRow s (grownCap w s.size 0 5)) 5 (bytesRow s (grownCap w s.size 0 5)).size ((bytesRow s (grownCap w s.size 0 5)).size + 1) j
      rw [decide_eq_false (by omega)] at this
      exact this
theorem bytes_put {W : World} {b : Nat} {l : List UInt8} (h : BytesAt W b l) (i : Nat) (x : UInt8) : BytesAt (W.setCell ⟨b, i, none⟩ (.int .u8 (x.toNat : Int))) b (l.set i x) := by
  intro j hj
  have hj' : j < l.length := by simpa using hj
  obtain ⟨h1, h2⟩ := h j hj'
  refine ⟨?_, by rw [World.frozen?_setCell]; exact h2⟩
  by_cases he : i = j
  · subst he
    rw [World.cell?_setCell_same' _ _ _ (by rw [h1]; rfl)]
    simp
  · rw [World.cell?_setCell_other _ _ _ _ (fun e => he (by injection e)), h1]
    simp [List.getElem_set_ne he]
theorem bytes_back {W : World} {b : Nat} {l : List UInt8} (h : BytesAt W b l) (n cap : Nat) (hn : l.length = n) :
    (convert 39 9 (.slice (some ⟨b, 0, none⟩) n cap)).run Try.prog W = .ok (.string ⟨l.toArray⟩) W := by
  subst hn
  refine run_convert_bytes_back W 39 9 5 ⟨b, 0, none⟩ cap l Try.underlying39 Try.underlying5 Try.underlying9 (fun j hj => ?_)
  have := (h j hj).1
  have e : (⟨b, 0, none⟩ : Addr).add j = ⟨b, j, none⟩ := by cases j <;> simp [Addr.add]
  rw [e]; exact this
theorem xor_byte (c v : UInt8) : bits .xor .u8 (c.toNat : Int) (v.toNat : Int) = (((c ^^^ v).toNat : Nat) : Int) := by
  rw [UInt8.toNat_xor]
  exact u8_xor_nat _ _ c.toNat_lt v.toNat_lt
/-- Where the check number of the payload k begins. -/
def bodyAt (ls : List (List UInt8)) (k : Nat) : Nat := endAt ls k + (mark ((ls.getD k []).length : Int)).length
theorem body_end {ls : List (List UInt8)} {k : Nat} (hk : k < ls.length) : endAt ls (k + 1) = bodyAt ls k + 4 + (ls.getD k []).length := by
  unfold bodyAt endAt
  rw [flat_step hk, List.length_append, frame_len]
  omega
theorem whole_other {ls : List (List UInt8)} (hs : Small ls) {k : Nat} (hk : k < ls.length) {i : Nat} (hi : i < (ls.getD k []).length + 4) {v : UInt8} (hv : v ≠ 0) :
    IsWhole ((flat ls).set (bodyAt ls k + i) ((flat ls).getD (bodyAt ls k + i) 0 ^^^ v)) (ls.take k) (endAt ls k) := by
  have hp : (ls.getD k []).length ≤ 8192 := by
    simp only [List.getD, List.getElem?_eq_getElem hk, Option.getD_some]; exact hs _ (List.getElem_mem hk)
  have e : flat ls = flat (ls.take k) ++ (frameOf (ls.getD k []) ++ flat (ls.drop (k + 1))) := by
    rw [← List.append_assoc, ← flat_step hk, ← flat_split]
  unfold bodyAt endAt
  generalize ls.getD k [] = p at *
  unfold frameOf at e
  have hB : (checkNo (mark (p.length : Int)) p ++ p).length = p.length + 4 := by rw [List.length_append, checkNo_len]; omega
  have hnx := next_spoilt (p := p) (y := flat (ls.drop (k + 1))) hp hi hv rfl
  generalize hM : mark (p.length : Int) = M at *
  generalize checkNo M p ++ p = B at *
  generalize flat (ls.drop (k + 1)) = Y at *
  have e2 : (flat ls).set ((flat (ls.take k)).length + M.length + i) ((flat ls).getD ((flat (ls.take k)).length + M.length + i) 0 ^^^ v) = flat (ls.take k) ++ (M ++ (B.set i (B.getD i 0 ^^^ v) ++ Y)) := by
    rw [e]
    generalize flat (ls.take k) = X
    have hg : (X ++ (M ++ B ++ Y)).getD (X.length + M.length + i) 0 = B.getD i 0 := by
      simp only [List.getD, List.append_assoc]
      rw [List.getElem?_append_right (by omega), List.getElem?_append_right (by omega), List.getElem?_append_left (by omega)]
      congr 2
      omega
    rw [hg, List.append_assoc, List.set_append_right _ _ (by omega), List.set_append_right _ _ (by omega), List.set_append_left _ _ (by omega)]
    congr 5
    omega
  rw [e2]
  exact whole_spoilt hs hnx
theorem tmod_bd {x k : Int} (h : 0 < k) : -k < x.tmod k ∧ x.tmod k < k := by
  rw [tmod_eq_if]
  have h1 := Int.emod_nonneg x (show k ≠ 0 by omega)
  have h2 := Int.emod_lt_of_pos x h
  have h3 := Int.emod_nonneg (-x) (show k ≠ 0 by omega)
  have h4 := Int.emod_lt_of_pos (-x) h
  split <;> omega
end Go.Proofs.Ytkiccfnmnfeapaa
