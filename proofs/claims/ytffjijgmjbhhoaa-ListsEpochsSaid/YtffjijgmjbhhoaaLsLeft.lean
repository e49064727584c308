/-
  SameInts at two slices of ints that read alike; and Left of the statements.
-/
import Derived.Test.YtffjijgmjbhhoaaLsTwin
import Derived.Test.YtffjijgmjbhhoaaLsSame
namespace Go.Proofs.Ytffjijgmjbhhoaa
open Go.RowKit Go.Sort
/-- A row of one's own of ints reads so. -/
theorem own_ints {w : World} {base n : Nat} {v : Value} {l : List Int} (h : w.ownsRow base 3 1 v n (l.map (Value.int .i64))) : RdB w.heap.size w v n l := by
  have h' := h
  rcases h.2 with ⟨rfl, h0⟩ | ⟨g, cap, cur, rfl, hb, hg, hnc, hcm, hcs, ht⟩
  · subst h0
    exact ⟨none, 0, rfl, by omega, by decide, fun _ => ⟨rfl, rfl⟩, fun h => by omega⟩
  · refine ⟨_, cap, rfl, hnc, hcm, fun e => (by cases e), fun _ => ⟨g, 0, rfl, (Array.getElem?_eq_some_iff.1 hg).1, fun j x hj => ?_⟩⟩
    have hl := h'.1
    rw [List.length_map] at hl
    have hjl := (List.getElem?_eq_some_iff.1 hj).1
    rw [Nat.zero_add, World.ownsRow.cellAt h' j (by omega), List.getElem?_map, hj]
    rfl
theorem RdB.at_ {B n : Nat} {w : World} {v : Value} {l : List Int} (h : RdB B w v n l) (hn : n ≤ l.length) {k : Nat} (hk : k < n) : ∃ b o c, v = .slice (some ⟨b, o, none⟩) n c ∧ b < B ∧ w.cell? ⟨b, o + k, none⟩ = some (.int .i64 (l.getD k 0)) := by
  obtain ⟨A, c, rfl, _, _, _, h5⟩ := h
  obtain ⟨b, o, rfl, hl, hc⟩ := h5 (by omega)
  exact ⟨b, o, c, rfl, hl, hc k _ (by simp [List.getD, show k < l.length by omega])⟩
set_option maxRecDepth 100000 in
set_option maxHeartbeats 1000000 in
theorem sameInts_any {va vb : Value} {l : List Int} {B B' : Nat} {w : World} (ha : RdB B w va l.length l) (hb : RdB B' w vb l.length l) :
    Calls Try.prog 24 #[va, vb] w (NumPost (.bool true) w) := by
  have HCA := Lib.hid (fun k (hk : k < l.length) => RdB.at_ ha (Nat.le_refl _) hk)
  have HCB := Lib.hid (fun k (hk : k < l.length) => RdB.at_ hb (Nat.le_refl _) hk)
  obtain ⟨A, ca, rfl, h1, h2, -⟩ := RdB.len ha
  obtain ⟨A', cb, rfl, h1', h2', -⟩ := RdB.len hb
  have hl : l.length ≤ maxLen := by omega
  unfold maxLen at hl
  clear ha hb h2 h2'
  go_enter Try.func24, Try.ntmps24
  go_wp2
  go_loopw [5] (fun i wr => ∃ k : Nat, k ≤ l.length ∧ i = .int .i64 k ∧ Still w wr) (fun i _ => l.length - (intOf i).toNat)
  case atStart => exact ⟨0, Nat.zero_le _, rfl, Still.refl _⟩
  case round =>
    obtain ⟨k, hk, rfl, hst⟩ := hrel
    by_cases hlt : k < l.length
    · obtain ⟨b1, o1, c1, hv1, _, x0⟩ := HCA.out k hlt
      obtain ⟨b2, o2, c2, hv2, _, y0⟩ := HCB.out k hlt
      injection hv1 with e1 _ e3
      injection hv2 with e2 _ e4
      subst e1 e2 e3 e4
      have x0 := (hst.cell ⟨b1, o1 + k, none⟩).trans x0
      have y0 := (hst.cell ⟨b2, o2 + k, none⟩).trans y0
      have hii : (k : Int) < (l.length : Int) := by omega
      clear HCA HCB
      generalize l.getD k 0 = n at *
      go_wp2
      go_quiet (fail)
      go_wp2
      go_roundw
      case rel => exact ⟨k + 1, by omega, by go_num, hst.drewN _⟩
      case measure => simp [intOf]; omega
    · go_wp2
      go_ret
      exact ⟨rfl, hst _⟩
set_option maxRecDepth 100000 in
set_option maxHeartbeats 2000000 in
theorem left_any {g c : Nat} {vl : Value} {B : Nat} {es : List En} {w : World} (ht : EsB w.heap.size w (.slice (some ⟨g, 0, none⟩) es.length c) es) (hc : es.length + 1 ≤ c) (_ : c ≤ maxLen) (h7 : w.cell? ⟨g, es.length * 6, none⟩ = some (.int .i64 (-70))) (hl : EsB B w vl es) (hn : es.length ≤ 90000) :
    Calls Try.prog 16 #[.slice (some ⟨g, 0, none⟩) es.length c, vl] w (NumPost (.bool true) w) := by
  have HS := Lib.hid (by have h := sameEn_any ht hl; rwa [decide_eq_true rfl] at h)
  obtain ⟨A, ca, rfl, h1, h2, -⟩ := hl.len
  have hgl : g < w.heap.size := block_lt_of_cell h7
  have hcc : (es.length : Int) + 1 ≤ (c : Int) := by omega
  have hc1 : decide ((es.length : Int) < (c : Int)) = true := decide_eq_true (by omega)
  have hc2 : es.length < c := by omega

  clear ht hl h2
  go_enter Try.func16, Try.ntmps16
  go_wp2_with fail
  refine (HS.out).mono ?_
  rintro e w2 ⟨rfl, hb⟩
  have k7 := (hb.cell (p := ⟨g, es.length * 6, none⟩) hgl).trans h7
  go_wp2_with fail
  go_ret
  exact ⟨rfl, hb⟩
end Go.Proofs.Ytffjijgmjbhhoaa
