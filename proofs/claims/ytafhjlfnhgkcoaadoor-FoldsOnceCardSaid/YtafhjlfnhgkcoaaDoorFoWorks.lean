/-
  Left and works of the statements of folds.
-/
import Derived.Test.YtafhjlfnhgkcoaaDoorFoTwin
namespace Go.Proofs.YtafhjlfnhgkcoaaDoor
open Go.RowKit Go.Sort Go.Maps
set_option maxRecDepth 100000 in
set_option maxHeartbeats 2000000 in
theorem left_any {g c : Nat} {vl : Value} {B : Nat} {es : List En} {w : World} (ht : EsB w.heap.size w (.slice (some ⟨g, 0, none⟩) es.length c) es) (hc : es.length + 1 ≤ c) (_ : c ≤ maxLen) (h7 : w.cell? ⟨g, es.length * 6, none⟩ = some (.int .i64 (-70))) (hl : EsB B w vl es) (hn : es.length ≤ 90000) :
    Calls Tryd.prog 14 #[.slice (some ⟨g, 0, none⟩) es.length c, vl] w (NumPost (.bool true) w) := by
  have HS := Lib.hid (sameEs_any ht hl)
  obtain ⟨A, ca, rfl, h1, h2, -⟩ := hl.len
  have hgl : g < w.heap.size := block_lt_of_cell h7
  have hcc : (es.length : Int) + 1 ≤ (c : Int) := by omega
  have hc1 : decide ((es.length : Int) < (c : Int)) = true := decide_eq_true (by omega)
  have hc2 : es.length < c := by omega

  clear ht hl h2
  go_enter Tryd.func14, Tryd.ntmps14
  go_wp2_with fail
  refine (HS.out).mono ?_
  rintro e w2 ⟨rfl, hb⟩
  have k7 := (hb.cell (p := ⟨g, es.length * 6, none⟩) hgl).trans h7
  go_wp2_with fail
  go_ret
  exact ⟨rfl, hb⟩
def wl : List En := [⟨0, ⟨5, 0, -1, 1, 1⟩⟩, ⟨0, ⟨6, 0, -1, 2, 3⟩⟩, ⟨0, ⟨6, 0, -1, 2, 3⟩⟩, ⟨0, ⟨7, 0, -1, 3, 9⟩⟩]
theorem wl_fold : foldL wl = (⟨1, false, -6, 3⟩, [⟨1, 1, [⟨1, 1⟩]⟩, ⟨1, 2, [⟨2, 3⟩]⟩, ⟨1, 2, []⟩, ⟨1, 3, [⟨3, 9⟩]⟩]) := by kernel_rfl
theorem wl_own (w : World) : EsB (w.heap.size + 1) (w.alloc (.cells #[.int .i64 0, .int .i64 5, .int .i64 0, .int .i64 (-1), .int .i64 1, .int .i64 1, .int .i64 0, .int .i64 6, .int .i64 0, .int .i64 (-1), .int .i64 2, .int .i64 3, .int .i64 0, .int .i64 6, .int .i64 0, .int .i64 (-1), .int .i64 2, .int .i64 3, .int .i64 0, .int .i64 7, .int .i64 0, .int .i64 (-1), .int .i64 3, .int .i64 9] 45)) (.slice (some ⟨w.heap.size, 0, none⟩) 4 4) wl := by
  refine ⟨_, 4, rfl, by decide, by decide, (fun e => by cases e), fun _ => ⟨w.heap.size, 0, rfl, by omega, fun j x hj => ?_⟩⟩
  rw [Nat.zero_add, Lib.cell_of_heap (heap_alloc_new w _)]
  have hl : (wl.map En.l).flatten = [0, 5, 0, -1, 1, 1, 0, 6, 0, -1, 2, 3, 0, 6, 0, -1, 2, 3, 0, 7, 0, -1, 3, 9] := rfl
  rw [hl] at hj
  have he : (#[Value.int .i64 0, .int .i64 5, .int .i64 0, .int .i64 (-1), .int .i64 1, .int .i64 1, .int .i64 0, .int .i64 6, .int .i64 0, .int .i64 (-1), .int .i64 2, .int .i64 3, .int .i64 0, .int .i64 6, .int .i64 0, .int .i64 (-1), .int .i64 2, .int .i64 3, .int .i64 0, .int .i64 7, .int .i64 0, .int .i64 (-1), .int .i64 3, .int .i64 9] : Array Value) = ([0, 5, 0, -1, 1, 1, 0, 6, 0, -1, 2, 3, 0, 6, 0, -1, 2, 3, 0, 7, 0, -1, 3, 9].map (Value.int .i64)).toArray := rfl
  rw [he, List.getElem?_toArray, List.getElem?_map, hj]
  rfl
set_option maxRecDepth 100000 in
set_option maxHeartbeats 4000000 in
theorem foWorks_any (w : World) (hA : Asked w) : Calls Tryd.prog 15 #[] w (NumPost (.bool true) w) := by
  obtain ⟨w1, HX1⟩ : ∃ W : World, Hid (W = w.alloc (.cells #[.int .i64 0, .int .i64 5, .int .i64 0, .int .i64 (-1), .int .i64 1, .int .i64 1, .int .i64 0, .int .i64 6, .int .i64 0, .int .i64 (-1), .int .i64 2, .int .i64 3, .int .i64 0, .int .i64 6, .int .i64 0, .int .i64 (-1), .int .i64 2, .int .i64 3, .int .i64 0, .int .i64 7, .int .i64 0, .int .i64 (-1), .int .i64 3, .int .i64 9] 45)) := ⟨_, Lib.hid rfl⟩
  have hE : EsB (w.heap.size + 1) w1 (.slice (some ⟨w.heap.size, 0, none⟩) 4 4) wl := by rw [HX1.out]; exact wl_own w
  have hb1 : Below w.heap.size w w1 := by rw [HX1.out]; exact (Below.refl _ _).alloc (Nat.le_refl _) _
  have hz1 : w.heap.size + 1 ≤ w1.heap.size := by rw [HX1.out]; simp
  have HOF := of_any hE (by unfold IntsOk; decide) hz1 (hA.keep hb1) (by decide)
  rw [wl_fold] at HOF
  replace HOF := Lib.hid HOF
  have HF6 : Hid (∀ X : World, Below w1.heap.size w1 X → Calls Tryd.prog 16 #[.slice (some ⟨w.heap.size, 0, none⟩) 4 4, .int .i64 6] X (NumPost (.tuple #[.int .i64 1, .bool true]) X)) := Lib.hid fun X hX => find_any 6 (RdB.below hE hX hz1 : EsB _ X _ wl) (Nat.le_trans hz1 hX.size)
  have HF8 : Hid (∀ X : World, Below w1.heap.size w1 X → Calls Tryd.prog 16 #[.slice (some ⟨w.heap.size, 0, none⟩) 4 4, .int .i64 8] X (NumPost (.tuple #[.int .i64 0, .bool false]) X)) := Lib.hid fun X hX => find_any 8 (RdB.below hE hX hz1 : EsB _ X _ wl) (Nat.le_trans hz1 hX.size)
  clear hE hA
  go_enter Tryd.func15, Tryd.ntmps15
  go_wp2_with (rw [← HX1.out])
  refine (HOF.out).mono ?_
  rintro e w2 ⟨g, rfl, hg1, hg2, -, hoc, hb⟩
  simp only [List.length_cons, List.length_nil, St.v] at hoc ⊢
  obtain ⟨V2, a0, a1, a2, a3⟩ := hoc 2 (by decide)
  obtain ⟨V3, b0, b1, b2, b3⟩ := hoc 3 (by decide)
  obtain rfl : V2 = .slice none 0 0 := by
    rcases a3 with ⟨_, h⟩ | ⟨e, q, h, _⟩
    · exact h
    · cases h
  simp only [List.getElem_cons_succ, List.getElem_cons_zero, Nat.zero_add] at a0 a1 a2 b1
  clear hoc b0 b2 b3 a3
  have hb2 := hb.size
  obtain ⟨w3, HX3⟩ : ∃ W : World, Hid (W = w2.alloc (.cells #[.int .i64 1, .bool false, .int .i64 (-6), .int .i64 3] 25)) := ⟨_, Lib.hid rfl⟩
  have hb3 : Below w2.heap.size w2 w3 := by rw [HX3.out]; exact (Below.refl _ _).alloc (Nat.le_refl _) _
  have h_s3 : w3.heap[w2.heap.size]? = some (.cells #[.int .i64 1, .bool false, .int .i64 (-6), .int .i64 3] 25 (0, 0)) := by rw [HX3.out]; exact heap_alloc_new _ _
  have hz3 : w2.heap.size < w3.heap.size := by rw [HX3.out]; simp
  have a0 := (hb3.cell (p := ⟨g, 6, none⟩) hg2).trans a0
  have a1 := (hb3.cell (p := ⟨g, 7, none⟩) hg2).trans a1
  have a2 := (hb3.cell (p := ⟨g, 8, none⟩) hg2).trans a2
  have b1 := (hb3.cell (p := ⟨g, 10, none⟩) hg2).trans b1
  have hB3 : Below w1.heap.size w1 w3 := hb.trans (hb3.mono hb2)
  clear hb hb3
  go_wp2_with (rw [← HX3.out])
  refine (HF6.out _ hB3).mono ?_
  rintro e w4 ⟨rfl, hb⟩
  have hB4 : Below w1.heap.size w1 w4 := hB3.trans (hb.mono (by omega))
  have a0 := (hb.cell (p := ⟨g, 6, none⟩) (by show g < w3.heap.size; omega)).trans a0
  have a1 := (hb.cell (p := ⟨g, 7, none⟩) (by show g < w3.heap.size; omega)).trans a1
  have a2 := (hb.cell (p := ⟨g, 8, none⟩) (by show g < w3.heap.size; omega)).trans a2
  have b1 := (hb.cell (p := ⟨g, 10, none⟩) (by show g < w3.heap.size; omega)).trans b1
  have h_s4 := (hb.block _ hz3).trans h_s3
  have hz4 := hb.size
  clear hb h_s3
  go_wp2_with fail
  refine (HF8.out _ hB4).mono ?_
  rintro e w5 ⟨rfl, hb⟩
  have a0 := (hb.cell (p := ⟨g, 6, none⟩) (by show g < w4.heap.size; omega)).trans a0
  have a1 := (hb.cell (p := ⟨g, 7, none⟩) (by show g < w4.heap.size; omega)).trans a1
  have a2 := (hb.cell (p := ⟨g, 8, none⟩) (by show g < w4.heap.size; omega)).trans a2
  have b1 := (hb.cell (p := ⟨g, 10, none⟩) (by show g < w4.heap.size; omega)).trans b1
  have h_s5 := (hb.block _ (by omega)).trans h_s4
  have hB5 : Below w1.heap.size w1 w5 := hB4.trans (hb.mono (by omega))
  clear hb h_s4
  have s0 : w5.cell? ⟨w2.heap.size, 0, none⟩ = some (.int .i64 1) := by rw [Lib.cell_of_heap h_s5]; rfl
  have s1 : w5.cell? ⟨w2.heap.size, 1, none⟩ = some (.bool false) := by rw [Lib.cell_of_heap h_s5]; rfl
  have s2 : w5.cell? ⟨w2.heap.size, 2, none⟩ = some (.int .i64 (-6)) := by rw [Lib.cell_of_heap h_s5]; rfl
  have s3 : w5.cell? ⟨w2.heap.size, 3, none⟩ = some (.int .i64 3) := by rw [Lib.cell_of_heap h_s5]; rfl
  go_wp2_with fail
  go_ret
  exact ⟨rfl, hb1.trans (hB5.mono hb1.size)⟩
end Go.Proofs.YtafhjlfnhgkcoaaDoor
