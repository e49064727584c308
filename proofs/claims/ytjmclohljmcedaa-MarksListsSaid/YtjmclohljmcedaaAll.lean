/-
  The contracts of PutAll of package marks and of the document's answer.
-/
import Derived.Test.YtjmclohljmcedaaText
namespace Go.Proofs.Ytjmclohljmcedaa
open Go.RowKit
open Go.Lib (uvarint zigzag unzigzag uvarint_small uvarint_big)
def marks (l : List Int) : List UInt8 := l.flatMap mark
def markAll (l : List Int) : List UInt8 := mark l.length ++ marks l
def Fits (l : List Int) : Prop := ∀ n ∈ l, -9223372036854775808 ≤ n ∧ n ≤ 9223372036854775807
/-- A slice value that reads as these ints, below block B. -/
def Ints (w : World) (B : Nat) (v : Value) (l : List Int) : Prop := ∃ (A : Option Addr) (c : Nat), v = .slice A l.length c ∧ l.length ≤ c ∧ (0 < l.length → ∃ b off, A = some ⟨b, off, none⟩ ∧ b < B ∧ ∀ j, j < l.length → w.cell? ⟨b, off + j, none⟩ = some (.int .i64 (l.getD j 0)))
theorem Ints.keep {w w' : World} {B B' : Nat} {v : Value} {l : List Int} (h : Ints w B v l) (hb : Below B w w') (hB : B ≤ B') : Ints w' B' v l := by
  obtain ⟨A, c, rfl, hc, h⟩ := h
  refine ⟨A, c, rfl, hc, fun h0 => ?_⟩
  obtain ⟨b, off, rfl, hlt, hcell⟩ := h h0
  exact ⟨b, off, rfl, by omega, fun j hj => (hb.cell (p := ⟨b, off + j, none⟩) hlt).trans (hcell j hj)⟩
theorem marks_snoc {l : List Int} {k : Nat} (h : k < l.length) : marks (l.take (k + 1)) = marks (l.take k) ++ mark (l.getD k 0) := by
  unfold marks
  rw [List.take_succ_eq_append_getElem h, List.flatMap_append]
  simp [h]
theorem marks_len : ∀ {l : List Int}, Fits l → (marks l).length ≤ 10 * l.length
  | [], _ => by simp [marks]
  | n :: l, h => by
    have h1 := mark_len (h n (by simp)).1 (h n (by simp)).2
    have h2 := marks_len (l := l) (fun x hx => h x (by simp [hx]))
    simp only [marks, List.flatMap_cons, List.length_append, List.length_cons] at h2 ⊢
    omega
theorem Fits.take {l : List Int} (h : Fits l) (k : Nat) : Fits (l.take k) := fun n hn => h n (List.mem_of_mem_take hn)
theorem Fits.at_ {l : List Int} (h : Fits l) (k : Nat) : -9223372036854775808 ≤ l.getD k 0 ∧ l.getD k 0 ≤ 9223372036854775807 := by
  by_cases hk : k < l.length
  · simp only [List.getD, List.getElem?_eq_getElem hk, Option.getD_some]; exact h _ (List.getElem_mem hk)
  · simp [List.getD, List.getElem?_eq_none (show l.length ≤ k by omega)]
set_option maxRecDepth 100000 in
set_option maxHeartbeats 1000000 in
theorem putAll_any (v : Value) (l : List Int) (w : World) (hi : Ints w w.heap.size v l) (hf : Fits l) (hl : l.length ≤ 1000000) :
    Calls Try.prog 20 #[v] w (PutPost (markAll l) w) := by
  obtain ⟨A, c, rfl, hc, hcell⟩ := hi
  have hml := mark_len (n := (l.length : Int)) (by omega) (by omega)
  have HF := Lib.hid hf
  have HC := Lib.hid hcell
  clear hf hcell
  go_enter Try.func20, Try.ntmps20
  go_wp2_with fail
  refine (appendInt_any w.heap.size _ [] _ _ (by omega) (by omega) (World.ownsRow_nil _ _ _ _) (by decide) (Nat.le_refl _)).mono ?_
  rintro e w1 ⟨v', rfl, hby, hb⟩
  have HBY := Lib.hid hby
  clear hby
  go_wp2
  go_loopw [3, 10] (fun b i wr => ∃ k : Nat, k ≤ l.length ∧ i = .int .i64 k ∧ Bytes wr w.heap.size b (mark l.length ++ marks (l.take k)) ∧ Below w.heap.size w wr) (fun _ i _ => l.length - (intOf i).toNat)
  case atStart => exact ⟨0, Nat.zero_le _, rfl, by simpa [marks] using HBY.out, hb⟩
  case round =>
    obtain ⟨k, hk, rfl, hby, hbel⟩ := hrel
    have hsz := hbel.size
    by_cases hlt : k < l.length
    · obtain ⟨b', off, rfl, hblt, hc'⟩ := HC.out (by omega)
      have hck := (hbel.cell (p := ⟨b', off + k, none⟩) hblt).trans (hc' k hlt)
      have hat := HF.out.at_ k
      have hlen := marks_len (HF.out.take k)
      have HBY := Lib.hid hby
      have HS := Lib.hid (marks_snoc hlt)
      rw [List.length_take] at hlen
      clear hby hc'
      generalize l.getD k 0 = n at *
      go_wp2_with fail
      refine (appendInt_any w.heap.size _ _ n _ hat.1 hat.2 HBY.out (by rw [List.length_append]; omega) hsz).mono ?_
      rintro e w2 ⟨v2, rfl, hby2, hb2⟩
      have hb3 := hbel.trans hb2
      have HBY2 := Lib.hid hby2
      clear hby2
      go_wp2
      go_roundw
      case rel => exact ⟨k + 1, by omega, by go_num, by rw [HS.out, ← List.append_assoc]; exact HBY2.out, hb3⟩
      case measure => simp [intOf]; omega
    · have ht : l.take k = l := List.take_of_length_le (by omega)
      rw [ht] at hby
      clear ht
      have hcv := conv_bytes hby
      go_wp2
      go_ret
      exact ⟨rfl, hbel⟩
set_option maxRecDepth 100000 in
set_option maxHeartbeats 1000000 in
theorem rputAll_any (v : Value) (l : List Int) (w : World) (hi : Ints w w.heap.size v l) (hf : Fits l) (hl : l.length ≤ 1000000) :
    Calls Try.prog 21 #[v] w (PutPost (markAll l) w) := by
  obtain ⟨A, c, rfl, hc, hcell⟩ := hi
  have hml := mark_len (n := (l.length : Int)) (by omega) (by omega)
  have HF := Lib.hid hf
  have HC := Lib.hid hcell
  clear hf hcell
  go_enter Try.func21, Try.ntmps21
  go_wp2_with fail
  refine (rput_any _ _ (by omega) (by omega)).mono ?_
  rintro e w1 ⟨rfl, hb⟩
  go_wp2
  go_loopw [3, 4] (fun b i wr => ∃ k : Nat, k ≤ l.length ∧ i = .int .i64 k ∧ b = .string ⟨(mark l.length ++ marks (l.take k)).toArray⟩ ∧ Below w.heap.size w wr) (fun _ i _ => l.length - (intOf i).toNat)
  case atStart => exact ⟨0, Nat.zero_le _, rfl, by simp [marks], hb⟩
  case round =>
    obtain ⟨k, hk, rfl, rfl, hbel⟩ := hrel
    have hsz := hbel.size
    have hlen := marks_len (HF.out.take k)
    rw [List.length_take] at hlen
    by_cases hlt : k < l.length
    · obtain ⟨b', off, rfl, hblt, hc'⟩ := HC.out (by omega)
      have hck := (hbel.cell (p := ⟨b', off + k, none⟩) hblt).trans (hc' k hlt)
      have hat := HF.out.at_ k
      have hmn := mark_len hat.1 hat.2
      have HS := Lib.hid (marks_snoc hlt)
      clear hc'
      generalize l.getD k 0 = n at *
      generalize hX : mark l.length ++ marks (l.take k) = X at *
      have hXl : X.length ≤ 10 + 10 * k := by rw [← hX, List.length_append]; omega
      have HX := Lib.hid hX
      clear hX
      go_wp2_with fail
      refine (rput_any _ _ hat.1 hat.2).mono ?_
      rintro e w2 ⟨rfl, hb2⟩
      have hb3 := hbel.trans (hb2.mono hsz)
      go_wp2
      go_roundw
      case rel => exact ⟨k + 1, by omega, by go_num, by rw [HS.out, ← List.append_assoc, HX.out]; simp [ByteArray.mk_append_mk], hb3⟩
      case measure => simp [intOf]; omega
    · have ht : l.take k = l := List.take_of_length_le (by omega)
      rw [ht]
      clear ht
      go_wp2
      go_ret
      exact ⟨rfl, hbel⟩
end Go.Proofs.Ytjmclohljmcedaa
