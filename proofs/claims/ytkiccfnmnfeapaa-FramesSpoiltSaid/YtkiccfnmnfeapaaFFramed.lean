/-
  Slices of texts that came in, and the contract of framed of the statements' package: payloads one behind the other, and where each ends.
-/
import Derived.Test.YtkiccfnmnfeapaaFWorks
import Derived.OpenShut
namespace Go.Proofs.Ytkiccfnmnfeapaa
open Go.RowKit
open Crc
/-- What is told of a slice of texts that came in. -/
def IsTexts (w : World) (a : Option Addr) (len cap : Nat) (ss : List ByteArray) : Prop :=
  (a = none ∧ len = 0 ∧ cap = 0 ∧ ss = []) ∨
  ∃ x, a = some x ∧ len ≤ cap ∧ cap ≤ maxLen ∧ ss.length = cap ∧ (∀ i, i < ss.length → w.cell? (x.add i) = some (.string (ss.getD i ByteArray.empty))) ∧ ∀ s ∈ ss, s.size ≤ maxLen
theorem texts_at {w : World} {a : Addr} {zs : List ByteArray} (h : ∀ i, i < zs.length → w.cell? (a.add i) = some (.string (zs.getD i ByteArray.empty))) (hp : 0 < zs.length) :
    ∃ b off, a = ⟨b, off, none⟩ ∧ ∀ j, j < zs.length → w.cell? ⟨b, off + j, none⟩ = some (.string (zs.getD j ByteArray.empty)) := by
  obtain ⟨b, off, spot⟩ := a
  have hspot : spot = none := by simpa [Addr.add] using World.cell?_spot (h 0 hp)
  subst hspot
  exact ⟨b, off, rfl, fun j hj => by rw [← Go.WideShapes.add_plain]; exact h j hj⟩
theorem IsTexts.texts {w : World} {a : Option Addr} {len cap : Nat} {ss : List ByteArray} (h : IsTexts w a len cap ss) :
    ((ss.take len).map tx).length = len ∧ Texts w w.heap.size (.slice a len cap) ((ss.take len).map tx) ∧ (∀ p ∈ (ss.take len).map tx, p.length ≤ maxLen) ∧ (a = none → len = 0) := by
  rcases h with ⟨rfl, rfl, rfl, rfl⟩ | ⟨x, rfl, h1, h2, h3, h4, h5⟩
  · exact ⟨rfl, ⟨none, 0, rfl, Nat.le_refl _, fun h => by simp at h⟩, fun n hn => by simp at hn, fun _ => rfl⟩
  · have hlen : ((ss.take len).map tx).length = len := by rw [List.length_map, List.length_take]; omega
    refine ⟨hlen, ⟨some x, cap, by rw [hlen], by omega, fun h0 => ?_⟩, fun p hp => ?_, fun e => by cases e⟩
    · obtain ⟨b, off, rfl, hc⟩ := texts_at h4 (by omega)
      refine ⟨b, off, rfl, World.block_lt_of_cell? w _ (hc 0 (by omega)), fun j hj => ?_⟩
      rw [hc j (by omega)]
      have hj' : j < ss.length := by omega
      have e : ((ss.take len).map tx).getD j [] = tx (ss.getD j ByteArray.empty) := by
        simp only [List.getD]
        rw [List.getElem?_map, List.getElem?_take, if_pos (by omega), List.getElem?_eq_getElem hj']
        rfl
      rw [e]
      unfold textV
      rw [← str_of]
    · obtain ⟨s, hs, rfl⟩ := List.mem_map.1 hp
      exact h5 s (List.mem_of_mem_take hs)
/-! ### framed -/
theorem frame_fits (t : List UInt8) (ht : t.length ≤ 8192) (w : World) :
    Calls Try.prog 10 #[.string ⟨t.toArray⟩] w fun e w' => e = .returned (.tuple #[.string ⟨(frameOf t).toArray⟩, .int .i64 0]) ∧ Below w.heap.size w w' :=
  (frame_any ⟨t.toArray⟩ w (by show t.toArray.size ≤ _; rw [List.size_toArray]; unfold maxLen; omega)).mono fun e w' ⟨h1, h2⟩ => ⟨by
    rw [h1, tx_of]; unfold frameR; rw [if_neg (by omega)], h2⟩
theorem flat_step {ps : List (List UInt8)} {k : Nat} (h : k < ps.length) : flat (ps.take (k + 1)) = flat (ps.take k) ++ frameOf (ps.getD k []) := by
  rw [List.take_succ_eq_append_getElem h, flat_snoc]
  simp [List.getD, h]
def Good (ls : List (List UInt8)) : Prop := ls.length ≤ 40 ∧ ∀ p ∈ ls, p.length ≤ 1000
theorem Good.small {ls : List (List UInt8)} (h : Good ls) : Small ls := fun p hp => by have := h.2 p hp; omega
theorem good_at {ls : List (List UInt8)} (h : Good ls) (k : Nat) : (ls.getD k []).length ≤ 1000 := by
  by_cases hk : k < ls.length
  · simp only [List.getD, List.getElem?_eq_getElem hk, Option.getD_some]; exact h.2 _ (List.getElem_mem hk)
  · simp [List.getD, List.getElem?_eq_none (show ls.length ≤ k by omega)]
def endAt (ls : List (List UInt8)) (k : Nat) : Nat := (flat (ls.take k)).length
def endsK (ls : List (List UInt8)) (k : Nat) : List Int := (List.range k).map fun i => ((endAt ls (i + 1) : Nat) : Int)
theorem endsK_succ (ls : List (List UInt8)) (k : Nat) : endsK ls (k + 1) = endsK ls k ++ [((endAt ls (k + 1) : Nat) : Int)] := by
  unfold endsK
  rw [List.range_succ, List.map_append]; rfl
theorem endsK_len (ls : List (List UInt8)) (k : Nat) : (endsK ls k).length = k := by simp [endsK]
theorem endAt_le {ls : List (List UInt8)} : ∀ {k : Nat}, (∀ j, j < k → (ls.getD j []).length ≤ 1000) → k ≤ ls.length → endAt ls k ≤ 1020 * k
  | 0, _, _ => by simp [endAt, flat]
  | k + 1, h, hk => by
    have ih := endAt_le (ls := ls) (k := k) (fun j hj => h j (by omega)) (by omega)
    have h1 := h k (by omega)
    have hm := mark_bd (n := ((ls.getD k []).length : Int)) (by omega) (by omega)
    unfold endAt at ih ⊢
    rw [flat_step (by omega), List.length_append, frame_len]
    omega
theorem good_end {ls : List (List UInt8)} (h : Good ls) {k : Nat} (hk : k ≤ ls.length) : endAt ls k ≤ 40800 := by
  have := endAt_le (ls := ls) (k := k) (fun j _ => good_at h j) hk
  have := h.1
  omega
theorem flat_end (ls : List (List UInt8)) {k : Nat} (h : ls.length ≤ k) : flat (ls.take k) = flat ls := by rw [List.take_of_length_le h]
theorem endAt_all (ls : List (List UInt8)) : endAt ls ls.length = (flat ls).length := by unfold endAt; rw [List.take_length]
/-- A row of the call's own, of these ints. -/
def numRow (w : World) (base : Nat) (v : Value) (l : List Int) : Prop := w.ownsRow base 3 1 v l.length (l.map (Value.int .i64))
theorem Try.info_int : (Try.prog.info? 3).map (fun i => (i.zero, i.size, i.bytes)) = some (some (.int .i64 0), 1, 8) := by kernel_rfl
theorem num_snoc {w : World} {base : Nat} {v : Value} {l : List Int} {n : Int} (h : w.ownsRow base 3 1 v (l.length + 1) (l.map (Value.int .i64) ++ [.int .i64 n])) : numRow w base v (l ++ [n]) := by
  unfold numRow
  rw [List.length_append, List.map_append]
  simpa using h
theorem numRow.keep {w w' : World} {base : Nat} {v : Value} {l : List Int} (h : numRow w base v l) (hb : Below w.heap.size w w') : numRow w' base v l :=
  World.ownsRow.kept (row := none) h ⟨hb.os, hb.tape, hb.output, hb.size, fun k hk _ => hb.block k hk⟩ (by
    rcases hv : v.ownBlock with _ | g
    · exact .inl rfl
    · exact .inr (by simp))
def FramedPost (ls : List (List UInt8)) (w : World) (e : Ending) (w' : World) : Prop :=
  Below w.heap.size w w' ∧ ((¬ Good ls ∧ e = .returned (.tuple #[.string ⟨#[]⟩, .slice none 0 0, .bool false])) ∨
    (Good ls ∧ ∃ v, e = .returned (.tuple #[.string ⟨(flat ls).toArray⟩, v, .bool true]) ∧ numRow w' w.heap.size v (endsK ls ls.length)))
set_option maxRecDepth 100000 in
set_option maxHeartbeats 2000000 in
theorem framed_any (v : Value) (ls : List (List UInt8)) (w : World) (hv : Texts w w.heap.size v ls) (hm : ∀ p ∈ ls, p.length ≤ maxLen) :
    Calls Try.prog 18 #[v] w (FramedPost ls w) := by
  obtain ⟨i0, hi, hz0, hz1, hz2⟩ := info_parts Try.info_int
  obtain ⟨A, c, rfl, hc, hcell⟩ := hv
  have HC := Lib.hid hcell
  have HMX := Lib.hid hm
  clear hcell hm
  by_cases h40 : 40 < ls.length
  · have t1 : decide (40 < (ls.length : Int)) = true := decide_eq_true (by omega)
    have HB : Hid (¬ Good ls) := fun h => by have := h.1; omega
    go_enter Try.func18, Try.ntmps18
    go_wp2_with fail
    go_ret3
    exact ⟨Below.refl _ _, .inl ⟨HB.out, rfl⟩⟩
  have t1 : decide (40 < (ls.length : Int)) = false := decide_eq_false (by omega)
  go_enter Try.func18, Try.ntmps18
  go_wp2_with fail
  go_loopw [5, 6, 7] (fun s en i wr => ∃ k : Nat, k ≤ ls.length ∧ i = .int .i64 k ∧ s = .string ⟨(flat (ls.take k)).toArray⟩ ∧ numRow wr w.heap.size en (endsK ls k) ∧ (∀ j, j < k → (ls.getD j []).length ≤ 1000) ∧ Below w.heap.size w wr) (fun _ _ i _ => ls.length - (intOf i).toNat)
  case atStart => exact ⟨0, Nat.zero_le _, rfl, rfl, World.ownsRow_nil _ _ _ _, fun j hj => absurd hj (Nat.not_lt_zero _), Below.refl _ _⟩
  case round =>
    obtain ⟨k, hk, rfl, rfl, hrow, hsm, hbel⟩ := hrel
    have hsz := hbel.size
    by_cases hlt : k < ls.length
    · obtain ⟨b, off, rfl, hblt, hc'⟩ := HC.out (by omega)
      have hck := (hbel.cell (p := ⟨b, off + k, none⟩) hblt).trans (hc' k hlt)
      have hmx : (ls.getD k []).length ≤ maxLen := by
        simp only [List.getD, List.getElem?_eq_getElem hlt, Option.getD_some]; exact HMX.out _ (List.getElem_mem hlt)
      unfold textV at hck
      clear hc'
      by_cases h1000 : 1000 < (ls.getD k []).length
      · have HB : Hid (¬ Good ls) := fun h => by have := good_at h k; omega
        clear hsm hrow
        generalize ls.getD k [] = t at *
        have t2 : decide (1000 < (t.length : Int)) = true := decide_eq_true (by omega)
        go_wp2_with fail
        go_ret3
        exact ⟨hbel, .inl ⟨HB.out, rfl⟩⟩
      · have HST := Lib.hid (flat_step hlt)
        have HSE := Lib.hid (endsK_succ ls k)
        have hek := endAt_le hsm hk
        have hsm' : ∀ j, j < k + 1 → (ls.getD j []).length ≤ 1000 := by
          intro j hj
          rcases Nat.lt_or_ge j k with h | h
          · exact hsm j h
          · rw [show j = k by omega]; omega
        have hek' := endAt_le hsm' hlt
        have HSM := Lib.hid hsm'
        have HEL := Lib.hid (endsK_len ls k)
        unfold endAt at hek hek' HSE
        rw [HST.out] at HSE
        rw [HST.out, List.length_append] at hek'
        clear hsm hsm' hmx
        generalize ls.getD k [] = t at *
        generalize flat (ls.take k) = T at *
        generalize endsK ls k = E at *
        have t2 : decide (1000 < (t.length : Int)) = false := decide_eq_false (by omega)
        have HR := Lib.hid hrow
        clear hrow
        go_wp2_with fail
        refine (frame_fits t (by omega) _).mono ?_
        rintro e w5 ⟨rfl, hb5⟩
        have hb6 := hbel.trans (hb5.mono hsz)
        have hsz6 := hb6.size
        have hrow := HR.out.keep hb5
        have hel := HEL.out
        clear hbel hb5 HR
        go_wp2_with (at_builtin; (refine wpList_append_own _ rfl _ _ 34 rfl w.heap.size 3 i0 (.int .i64 0) 1 8 Try.underlying34 hi hz0 hz1 hz2 rfl (by decide) _ _ _ rfl (World.ownsRow.alloc hrow _) ⟨w5.heap.size, 0, none⟩ 1 1 [.int .i64 ((T.length : Int) + ((frameOf t).length : Int))] rfl rfl (cell_one_new _ _ _) (fun x hx => by simp at hx; subst hx; rfl) (by unfold maxLen; omega) (by omega) (by simp; omega) ?_); intro v' w3 hown' hgrow3 hnil3)
        have hb3 := (hb6.alloc hsz6 (.cells #[.int .i64 ((T.length : Int) + ((frameOf t).length : Int))] 3)).grown hgrow3 (by simp; omega) (fun q hq => (World.ownsRow.lt hrow q hq).1)
        have HR := Lib.hid (num_snoc hown')
        clear hrow hown' hgrow3 hnil3 hel
        go_roundw
        case rel => exact ⟨k + 1, by omega, by go_num, by rw [HST.out]; simp [ByteArray.mk_append_mk], by rw [HSE.out, List.length_append]; simpa using HR.out, HSM.out, hb3⟩
        case measure => simp [intOf]; omega
    · obtain rfl : k = ls.length := by omega
      have HG : Hid (Good ls) := ⟨by omega, fun p hp => by
        obtain ⟨j, hj, rfl⟩ := List.getElem_of_mem hp
        have := hsm j hj
        simpa [List.getD, hj] using this⟩
      have HF := Lib.hid (flat_end ls (Nat.le_refl _))
      have HR := Lib.hid hrow
      clear hsm hrow
      go_wp2_with fail
      go_ret3
      exact ⟨hbel, .inr ⟨HG.out, _, by rw [HF.out]; rfl, HR.out⟩⟩
end Go.Proofs.Ytkiccfnmnfeapaa
