/-
  Plain mathematics of marks that are put and got back, and of marks that are cut off.
-/
import Derived.Test.YtjmclohljmcedaaSame
import Derived.OpenShut
namespace Go.Proofs.Ytjmclohljmcedaa
open Go.RowKit
open Go.Lib (uvarint zigzag unzigzag uvarint_small uvarint_big)
theorem got_at (x m : List UInt8) : got (x ++ m) x.length = (dec m).map fun p => (unzigzag p.1, x.length + p.2) := by
  rw [got_nat (by simp), List.drop_left]
theorem dec_cut {f i : Nat} (hf : f < 18446744073709551616) (hi : i < (uvarint f).length) : dec ((uvarint f).take i) = none := by
  rcases hd : dec ((uvarint f).take i) with _ | ⟨f', k⟩
  · rfl
  · exfalso
    have hp := dec_pos hd
    rw [List.length_take] at hp
    obtain ⟨h1, h2, h3⟩ := dec_iff.1 hd
    have e1 := dec_mark hf []
    rw [List.append_nil] at e1
    have e2 := dec_mark h1 ((uvarint f).drop k)
    rw [h2, List.take_take, Nat.min_eq_left (by omega), List.take_append_drop, e1] at e2
    simp only [Option.some.injEq, Prod.mk.injEq] at e2
    rw [List.length_take] at e2
    omega
theorem got_put {n : Int} (h0 : -9223372036854775808 ≤ n) (h1 : n ≤ 9223372036854775807) (x y : List UInt8) : got (x ++ (mark n ++ y)) x.length = some (n, x.length + (mark n).length) := by
  rw [got_at, show mark n = uvarint (zigzag n) from rfl, dec_mark (Lib.zigzag_lt h0 h1)]
  simp [unzig_zig]
theorem got_put0 {n : Int} (h0 : -9223372036854775808 ≤ n) (h1 : n ≤ 9223372036854775807) (y : List UInt8) : got (mark n ++ y) 0 = some (n, (mark n).length) := by
  have := got_put h0 h1 [] y
  simpa using this
theorem got_cut {n : Int} (h0 : -9223372036854775808 ≤ n) (h1 : n ≤ 9223372036854775807) (x : List UInt8) {i : Nat} (hi : i < (mark n).length) : got (x ++ (mark n).take i) x.length = none := by
  rw [got_at, show mark n = uvarint (zigzag n) from rfl, dec_cut (Lib.zigzag_lt h0 h1) hi]
  rfl
theorem got_cut0 {n : Int} (h0 : -9223372036854775808 ≤ n) (h1 : n ≤ 9223372036854775807) {i : Nat} (hi : i < (mark n).length) : got ((mark n).take i) 0 = none := by
  have := got_cut h0 h1 [] hi
  simpa using this
theorem count_short {c : Nat} {y : List UInt8} (hc : c ≤ 1000000) (hlt : y.length < c) : gotCount (mark (c : Int) ++ y) 0 = none := by
  unfold gotCount
  rw [got_put0 (by omega) (by omega)]
  simp only
  rw [if_neg]
  simp only [List.length_append]
  omega
theorem count_cut {c i : Nat} {y : List UInt8} (hc : c ≤ 1000000) (hi : i < (mark (c : Int)).length) : gotCount ((mark (c : Int) ++ y).take i) 0 = none := by
  unfold gotCount
  rw [List.take_append_of_le_length (by omega), got_cut0 (by omega) (by omega) hi]
theorem text_cut {t : List UInt8} (ht : t.length ≤ 1000000) {i : Nat} (hi : i < (markText t).length) : gotText ((markText t).take i) 0 = none := by
  unfold gotText
  unfold markText at hi ⊢
  by_cases h : i < (mark (t.length : Int)).length
  · rw [count_cut ht h]; rfl
  · rw [List.length_append] at hi
    have e : (mark (t.length : Int) ++ t).take i = mark (t.length : Int) ++ t.take (i - (mark (t.length : Int)).length) := by
      rw [List.take_append, List.take_of_length_le (by omega)]
    rw [e, count_short ht (by rw [List.length_take]; omega)]; rfl
theorem marks_ge : ∀ l : List Int, l.length ≤ (marks l).length
  | [] => by simp [marks]
  | n :: l => by
    have h1 : 1 ≤ (mark n).length := Lib.uvarint_pos _
    have h2 := marks_ge l
    simp only [marks, List.flatMap_cons, List.length_append, List.length_cons] at h2 ⊢
    omega
theorem marks_cons (n : Int) (l : List Int) : marks (n :: l) = mark n ++ marks l := by simp [marks]
theorem gotN_put : ∀ (l : List Int) (x y : List UInt8), Fits l → gotN (x ++ (marks l ++ y)) l.length x.length = some (l, x.length + (marks l).length)
  | [], x, y, _ => by simp [gotN, marks]
  | n :: l, x, y, h => by
    have hn := h n (by simp)
    have ih := gotN_put l (x ++ mark n) y (fun m hm => h m (by simp [hm]))
    rw [marks_cons, List.append_assoc, List.length_cons]
    simp only [gotN, got_put hn.1 hn.2]
    rw [List.length_append, List.append_assoc] at ih
    rw [ih]
    simp [Nat.add_assoc]
theorem gotN_cut : ∀ (l : List Int) (x : List UInt8) (j : Nat), Fits l → j < (marks l).length → gotN (x ++ (marks l).take j) l.length x.length = none
  | [], _, j, _, h => by simp [marks] at h
  | n :: l, x, j, h, hj => by
    have hn := h n (by simp)
    rw [marks_cons] at hj ⊢
    rw [List.length_append] at hj
    by_cases hlt : j < (mark n).length
    · rw [List.take_append_of_le_length (by omega), List.length_cons]
      simp only [gotN, got_cut hn.1 hn.2 x hlt]
    · have ih := gotN_cut l (x ++ mark n) (j - (mark n).length) (fun m hm => h m (by simp [hm])) (by omega)
      rw [List.take_append, List.take_of_length_le (by omega), List.length_cons]
      simp only [gotN, got_put hn.1 hn.2]
      rw [List.length_append, List.append_assoc] at ih
      rw [ih]
      rfl
theorem all_put {l : List Int} (hl : l.length ≤ 1000000) (h : Fits l) : gotAll (markAll l) 0 = some (l, (markAll l).length) := by
  have hc : gotCount (markAll l) 0 = some (l.length, (mark (l.length : Int)).length) := by
    unfold gotCount markAll
    rw [got_put0 (by omega) (by omega)]
    simp only
    have := marks_ge l
    rw [if_pos ⟨by omega, by rw [List.length_append]; omega⟩]
    simp
  unfold gotAll
  rw [hc]
  simp only
  have := gotN_put l (mark (l.length : Int)) [] h
  rw [List.append_nil] at this
  unfold markAll
  rw [this, List.length_append]
theorem all_cut {l : List Int} (hl : l.length ≤ 1000000) (h : Fits l) {i : Nat} (hi : i < (markAll l).length) : gotAll ((markAll l).take i) 0 = none := by
  unfold gotAll
  unfold markAll at hi ⊢
  by_cases hm : i < (mark (l.length : Int)).length
  · rw [count_cut hl hm]
  · rw [List.length_append] at hi
    have e : (mark (l.length : Int) ++ marks l).take i = mark (l.length : Int) ++ (marks l).take (i - (mark (l.length : Int)).length) := by
      rw [List.take_append, List.take_of_length_le (by omega)]
    rw [e]
    rcases hc : gotCount (mark (l.length : Int) ++ (marks l).take (i - (mark (l.length : Int)).length)) 0 with _ | ⟨c, k⟩
    · rfl
    · have hb := (gotCount_bd hc).2.2.2
      rw [got_put0 (by omega) (by omega)] at hb
      simp only [Option.some.injEq, Prod.mk.injEq] at hb
      obtain ⟨h1, rfl⟩ := hb
      obtain rfl : c = l.length := by omega
      exact gotN_cut l _ _ h (by omega)
theorem bytes_take (s : ByteArray) (i : Nat) : bytesOf (s.extract 0 i) = (bytesOf s).take i := by
  unfold bytesOf
  rw [Lib.extract_data]
  simp
theorem bytes_of (l : List UInt8) : bytesOf ⟨l.toArray⟩ = l := by simp [bytesOf]
/-- What is told of a slice of ints that came in. -/
def IsRow (k : IntKind) (w : World) (a : Option Addr) (len cap : Nat) (zs : List Int) : Prop :=
  (a = none ∧ len = 0 ∧ cap = 0 ∧ zs = []) ∨
  ∃ x, a = some x ∧ len ≤ cap ∧ cap ≤ maxLen ∧ zs.length = cap ∧ (∀ i, i < zs.length → w.cell? (x.add i) = some (.int k (zs.getD i 0))) ∧ ∀ n ∈ zs, (Lit.int k n).wf = true
theorem i64_range {n : Int} (h : (Lit.int .i64 n).wf = true) : -9223372036854775808 ≤ n ∧ n ≤ 9223372036854775807 := by
  simp [Lit.wf, IntKind.min, IntKind.max, IntKind.signed, IntKind.bits] at h
  omega
theorem IsRow.ints {w : World} {a : Option Addr} {len cap : Nat} {zs : List Int} (h : IsRow .i64 w a len cap zs) :
    (zs.take len).length = len ∧ Ints w w.heap.size (.slice a len cap) (zs.take len) ∧ Fits (zs.take len) := by
  rcases h with ⟨rfl, rfl, rfl, rfl⟩ | ⟨x, rfl, h1, h2, h3, h4, h5⟩
  · exact ⟨rfl, ⟨none, 0, rfl, Nat.le_refl _, fun h => by simp at h⟩, fun n hn => by simp at hn⟩
  · have hlen : (zs.take len).length = len := by rw [List.length_take]; omega
    refine ⟨hlen, ⟨some x, cap, by rw [hlen], by omega, fun h0 => ?_⟩, fun n hn => i64_range (h5 n (List.mem_of_mem_take hn))⟩
    obtain ⟨b, off, rfl, hc⟩ := ints_at h4 (by omega)
    refine ⟨b, off, rfl, World.block_lt_of_cell? w _ (hc 0 (by omega)), fun j hj => ?_⟩
    rw [hc j (by omega)]
    have e : (zs.take len).getD j 0 = zs.getD j 0 := by
      simp only [List.getD]
      rw [List.getElem?_take, if_pos (by omega)]
    rw [e]
end Go.Proofs.Ytjmclohljmcedaa
