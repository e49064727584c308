/-
  The chapter's entries: works of the statements.
-/
import Derived.Test.YtffjijgmjbhhoaaLsPre
import Derived.Test.YtffjijgmjbhhoaaLsBest
import Derived.Test.YtffjijgmjbhhoaaLsSeals
import Derived.Test.YtffjijgmjbhhoaaLsRise
import Derived.Test.YtffjijgmjbhhoaaLsLeft
import Derived.Deep.RegionWith
namespace Go.Proofs.Ytffjijgmjbhhoaa
open Go.RowKit Go.Sort
def wa : En := ⟨1, ⟨0, 0, 0, 0, 0⟩⟩
def wb : En := ⟨1, ⟨1, 0, 0, 0, 0⟩⟩
def wc : En := ⟨3, ⟨0, 0, 0, 0, 0⟩⟩
theorem es_lit (X : World) (es : List En) (cs : Array Value) (h : cs.toList = (es.map En.l).flatten.map (Value.int .i64)) (h0 : es.length ≤ 1000) : EsB (X.heap.size + 1) (X.alloc (.cells cs 41)) (.slice (some ⟨X.heap.size, 0, none⟩) es.length es.length) es := by
  refine ⟨_, es.length, rfl, Nat.le_refl _, Nat.le_trans h0 (by decide), (fun e => by cases e), fun _ => ⟨X.heap.size, 0, rfl, by omega, fun j x hj => ?_⟩⟩
  rw [Nat.zero_add, Lib.cell_of_heap (heap_alloc_new X _), ← Array.getElem?_toList, h, List.getElem?_map, hj]
  rfl
theorem box6 {X : World} {g : Nat} {a b c d e f : Value} {t : TypeId} {z : Nat × Nat} (h : X.heap[g]? = some (.cells #[a, b, c, d, e, f] t z)) : X.cell? ⟨g, 0, none⟩ = some a ∧ X.cell? ⟨g, 1, none⟩ = some b ∧ X.cell? ⟨g, 2, none⟩ = some c ∧ X.cell? ⟨g, 3, none⟩ = some d ∧ X.cell? ⟨g, 4, none⟩ = some e ∧ X.cell? ⟨g, 5, none⟩ = some f := by
  refine ⟨?_, ?_, ?_, ?_, ?_, ?_⟩ <;> (rw [Lib.cell_of_heap h]; rfl)
theorem keep_new {X Y : World} {o : Obj} {n : Nat} (hn : X.heap.size = n) (hb : Below (X.alloc o).heap.size (X.alloc o) Y) : Y.heap[n]? = some o := by
  subst hn; exact (hb.block _ (by simp)).trans (heap_alloc_new X o)
def wregs (g : Nat) : List Rg := [⟨0, 2, some ⟨g, 0, none⟩, 1, 3, 0⟩, ⟨0, 3, none, 0, 0, 0⟩, ⟨0, 3, some ⟨g, 0, none⟩, 2, 3, 0⟩, ⟨0, 3, some ⟨g, 6, none⟩, 2, 2, 0⟩]
theorem wregs_best (g : Nat) : bestR (wregs g) = 2 := by
  simp [bestR, wregs, bestUp, better]
theorem wregs_mem (X : World) (g : Nat) : RgsB (X.heap.size + 1) (X.alloc (.cells #[.int .i64 0, .int .i64 2, .slice (some ⟨g, 0, none⟩) 1 3, .int .i64 0, .int .i64 0, .int .i64 3, .slice none 0 0, .int .i64 0, .int .i64 0, .int .i64 3, .slice (some ⟨g, 0, none⟩) 2 3, .int .i64 0, .int .i64 0, .int .i64 3, .slice (some ⟨g, 6, none⟩) 2 2, .int .i64 0] 43)).drew (.slice (some ⟨X.heap.size, 0, none⟩) 4 4) (wregs g) := by
  refine ⟨_, 4, rfl, Nat.le_refl 4, by decide, (fun e => by cases e), fun _ => ⟨X.heap.size, 0, rfl, by omega, fun k hk => ?_⟩⟩
  have hk' : k < 4 := hk
  have hh := heap_alloc_new X (.cells #[.int .i64 0, .int .i64 2, .slice (some ⟨g, 0, none⟩) 1 3, .int .i64 0, .int .i64 0, .int .i64 3, .slice none 0 0, .int .i64 0, .int .i64 0, .int .i64 3, .slice (some ⟨g, 0, none⟩) 2 3, .int .i64 0, .int .i64 0, .int .i64 3, .slice (some ⟨g, 6, none⟩) 2 2, .int .i64 0] 43)
  generalize X.alloc _ = Y at *
  have hh' : Y.drew.heap[X.heap.size]? = _ := hh
  rcases (by omega : k = 0 ∨ k = 1 ∨ k = 2 ∨ k = 3) with rfl | rfl | rfl | rfl <;> (refine ⟨?_, ?_, ?_, ?_⟩ <;> (rw [Lib.cell_of_heap hh']; rfl))
set_option maxRecDepth 100000 in
set_option maxHeartbeats 4000000 in
theorem lsWorks_any (w : World) : Calls Try.prog 17 #[] w (NumPost (.bool true) w) := by
  obtain ⟨w4, HX4⟩ : ∃ W : World, Hid (W = (((w.alloc (.cells #[.int .i64 1, .int .i64 0, .int .i64 0, .int .i64 0, .int .i64 0, .int .i64 0] 41)).alloc (.cells #[.int .i64 1, .int .i64 1, .int .i64 0, .int .i64 0, .int .i64 0, .int .i64 0] 41)).alloc (.cells #[.int .i64 3, .int .i64 0, .int .i64 0, .int .i64 0, .int .i64 0, .int .i64 0] 41)).alloc (.cells #[.int .i64 1, .int .i64 0, .int .i64 0, .int .i64 0, .int .i64 0, .int .i64 0, .int .i64 1, .int .i64 1, .int .i64 0, .int .i64 0, .int .i64 0, .int .i64 0, .int .i64 3, .int .i64 0, .int .i64 0, .int .i64 0, .int .i64 0, .int .i64 0] 41)) := ⟨_, Lib.hid rfl⟩
  have hb04 : Below w.heap.size w w4 := by rw [HX4.out]; exact ((((Below.refl _ _).alloc (Nat.le_refl _) _).alloc (by simp) _).alloc (by simp <;> omega) _).alloc (by simp <;> omega) _
  have hz4 : w.heap.size + 1 + 1 + 1 + 1 ≤ w4.heap.size := by rw [HX4.out]; simp
  have hA4 : w4.heap[w.heap.size]? = some (.cells #[.int .i64 1, .int .i64 0, .int .i64 0, .int .i64 0, .int .i64 0, .int .i64 0] 41 (0, 0)) := by rw [HX4.out]; exact keep_new rfl ((((Below.refl _ _).alloc (Nat.le_refl _) _).alloc (by simp) _).alloc (by simp <;> omega) _)
  have hC4 : w4.heap[w.heap.size + 1 + 1]? = some (.cells #[.int .i64 3, .int .i64 0, .int .i64 0, .int .i64 0, .int .i64 0, .int .i64 0] 41 (0, 0)) := by rw [HX4.out]; exact keep_new (by simp) ((Below.refl _ _).alloc (Nat.le_refl _) _)
  have hL4 : EsB (w.heap.size + 1 + 1 + 1 + 1) w4 (.slice (some ⟨w.heap.size + 1 + 1 + 1, 0, none⟩) 3 3) [wa, wb, wc] := by
    rw [HX4.out]
    have h := es_lit (((w.alloc (.cells #[.int .i64 1, .int .i64 0, .int .i64 0, .int .i64 0, .int .i64 0, .int .i64 0] 41)).alloc (.cells #[.int .i64 1, .int .i64 1, .int .i64 0, .int .i64 0, .int .i64 0, .int .i64 0] 41)).alloc (.cells #[.int .i64 3, .int .i64 0, .int .i64 0, .int .i64 0, .int .i64 0, .int .i64 0] 41)) [wa, wb, wc] #[.int .i64 1, .int .i64 0, .int .i64 0, .int .i64 0, .int .i64 0, .int .i64 0, .int .i64 1, .int .i64 1, .int .i64 0, .int .i64 0, .int .i64 0, .int .i64 0, .int .i64 3, .int .i64 0, .int .i64 0, .int .i64 0, .int .i64 0, .int .i64 0] rfl (by decide)
    simpa using h
  have HL : Hid (∀ X : World, Below w4.heap.size w4 X → EsB w4.heap.size X (.slice (some ⟨w.heap.size + 1 + 1 + 1, 0, none⟩) 3 3) [wa, wb, wc]) := Lib.hid fun X hX => (RdB.below (RdB.mono hL4 hz4) hX (Nat.le_refl _) : EsB _ X _ _)
  have HL2 : Hid (∀ X : World, Below w4.heap.size w4 X → EsB w4.heap.size X (.slice (some ⟨w.heap.size + 1 + 1 + 1, 0, none⟩) 2 3) [wa, wb]) := Lib.hid fun X hX => EsB.take (i := 2) (HL.out X hX) (by decide)
  have HA : Hid (∀ X : World, Below w4.heap.size w4 X → X.heap[w.heap.size]? = some (.cells #[.int .i64 1, .int .i64 0, .int .i64 0, .int .i64 0, .int .i64 0, .int .i64 0] 41 (0, 0))) := Lib.hid fun X hX => (hX.block _ (by omega)).trans hA4
  have HC : Hid (∀ X : World, Below w4.heap.size w4 X → X.heap[w.heap.size + 1 + 1]? = some (.cells #[.int .i64 3, .int .i64 0, .int .i64 0, .int .i64 0, .int .i64 0, .int .i64 0] 41 (0, 0))) := Lib.hid fun X hX => (hX.block _ (by omega)).trans hC4
  have HBS : Hid (Calls Try.prog 18 #[.slice (some ⟨w4.heap.size, 0, none⟩) 4 4] (w4.alloc (.cells #[.int .i64 0, .int .i64 2, .slice (some ⟨w.heap.size + 1 + 1 + 1, 0, none⟩) 1 3, .int .i64 0, .int .i64 0, .int .i64 3, .slice none 0 0, .int .i64 0, .int .i64 0, .int .i64 3, .slice (some ⟨w.heap.size + 1 + 1 + 1, 0, none⟩) 2 3, .int .i64 0, .int .i64 0, .int .i64 3, .slice (some ⟨w.heap.size + 1 + 1 + 1, 6, none⟩) 2 2, .int .i64 0] 43)).drew (NumPost (.int .i64 2) (w4.alloc (.cells #[.int .i64 0, .int .i64 2, .slice (some ⟨w.heap.size + 1 + 1 + 1, 0, none⟩) 1 3, .int .i64 0, .int .i64 0, .int .i64 3, .slice none 0 0, .int .i64 0, .int .i64 0, .int .i64 3, .slice (some ⟨w.heap.size + 1 + 1 + 1, 0, none⟩) 2 3, .int .i64 0, .int .i64 0, .int .i64 3, .slice (some ⟨w.heap.size + 1 + 1 + 1, 6, none⟩) 2 2, .int .i64 0] 43)).drew)) := Lib.hid (by
    have h := best_any (wregs_mem w4 (w.heap.size + 1 + 1 + 1)) (by show _ ≤ (w4.alloc _).heap.size; simp)
    rwa [wregs_best] at h)
  clear hA4 hC4 hL4
  go_enter Try.func17, Try.ntmps17
  go_wp2_with fail
  rw [← HX4.out]
  go_region_with (go_at_call 18; refine (HBS.out).mono ?_; rintro e w6 ⟨rfl, hb6⟩)
  have hb6 : Below w4.heap.size w4 w6 := (((Below.refl _ _).alloc (Nat.le_refl _) _ : Below w4.heap.size w4 (w4.alloc (.cells #[.int .i64 0, .int .i64 2, .slice (some ⟨w.heap.size + 1 + 1 + 1, 0, none⟩) 1 3, .int .i64 0, .int .i64 0, .int .i64 3, .slice none 0 0, .int .i64 0, .int .i64 0, .int .i64 3, .slice (some ⟨w.heap.size + 1 + 1 + 1, 0, none⟩) 2 3, .int .i64 0, .int .i64 0, .int .i64 3, .slice (some ⟨w.heap.size + 1 + 1 + 1, 6, none⟩) 2 2, .int .i64 0] 43))).drew).trans (hb6.mono (by show _ ≤ (w4.alloc _).heap.size; simp))
  clear HBS
  go_wp2_with fail
  have HK := Lib.hid (prefix_any (HL2.out w6 hb6) (HL.out w6 hb6))
  rw [show pre [wa, wb] [wa, wb, wc] = true from by decide] at HK
  refine (HK.out).mono ?_
  rintro e w7 ⟨rfl, hb7'⟩
  have hb7 : Below w4.heap.size w4 w7 := hb6.trans (hb7'.mono hb6.size)
  clear HK hb7'
  obtain ⟨a0, a1, a2, a3, a4, a5⟩ := box6 (HA.out w7 hb7)
  obtain ⟨c0, c1, c2, c3, c4, c5⟩ := box6 (HC.out w7 hb7)
  obtain ⟨w8, HX8⟩ : ∃ W : World, Hid (W = w7.alloc (.cells #[.int .i64 1, .int .i64 0, .int .i64 0, .int .i64 0, .int .i64 0, .int .i64 0, .int .i64 3, .int .i64 0, .int .i64 0, .int .i64 0, .int .i64 0, .int .i64 0] 41)) := ⟨_, Lib.hid rfl⟩
  have hb8 : Below w4.heap.size w4 w8 := by rw [HX8.out]; exact hb7.alloc hb7.size _
  have hz8 : w7.heap.size + 1 ≤ w8.heap.size := by rw [HX8.out]; simp
  have HE8 : Hid (EsB w8.heap.size w8 (.slice (some ⟨w7.heap.size, 0, none⟩) 2 2) [wa, wc]) := Lib.hid (by
    have h := es_lit w7 [wa, wc] #[.int .i64 1, .int .i64 0, .int .i64 0, .int .i64 0, .int .i64 0, .int .i64 0, .int .i64 3, .int .i64 0, .int .i64 0, .int .i64 0, .int .i64 0, .int .i64 0] rfl (by decide)
    rw [← HX8.out] at h
    exact RdB.mono h hz8)
  go_wp2_with (rw [← HX8.out])
  have HK := Lib.hid (prefix_any HE8.out (HL.out w8 hb8))
  rw [show pre [wa, wc] [wa, wb, wc] = false from by decide] at HK
  refine (HK.out).mono ?_
  rintro e w9 ⟨rfl, hb9'⟩
  have hb9 : Below w4.heap.size w4 w9 := hb8.trans (hb9'.mono hb8.size)
  clear HK hb9'
  clear a0 a1 a2 a3 a4 a5 c0 c1 c2 c3 c4 c5
  obtain ⟨a0, a1, a2, a3, a4, a5⟩ := box6 (HA.out w9 hb9)
  obtain ⟨c0, c1, c2, c3, c4, c5⟩ := box6 (HC.out w9 hb9)
  obtain ⟨w10, HX10⟩ : ∃ W : World, Hid (W = w9.alloc (.cells #[.int .i64 1, .int .i64 0, .int .i64 0, .int .i64 0, .int .i64 0, .int .i64 0, .int .i64 3, .int .i64 0, .int .i64 0, .int .i64 0, .int .i64 0, .int .i64 0] 41)) := ⟨_, Lib.hid rfl⟩
  have hb10 : Below w4.heap.size w4 w10 := by rw [HX10.out]; exact hb9.alloc hb9.size _
  have hz10 : w9.heap.size + 1 ≤ w10.heap.size := by rw [HX10.out]; simp
  have HE10 : Hid (EsB w10.heap.size w10 (.slice (some ⟨w9.heap.size, 0, none⟩) 2 2) [wa, wc]) := Lib.hid (by
    have h := es_lit w9 [wa, wc] #[.int .i64 1, .int .i64 0, .int .i64 0, .int .i64 0, .int .i64 0, .int .i64 0, .int .i64 3, .int .i64 0, .int .i64 0, .int .i64 0, .int .i64 0, .int .i64 0] rfl (by decide)
    rw [← HX10.out] at h
    exact RdB.mono h hz10)
  go_wp2_with (rw [← HX10.out])
  have HK := Lib.hid (common_any (HL.out w10 hb10) HE10.out)
  rw [show ((cp [wa, wb, wc] [wa, wc] : Nat) : Int) = 1 from by decide] at HK
  refine (HK.out).mono ?_
  rintro e w11 ⟨rfl, hb11'⟩
  have hb11 : Below w4.heap.size w4 w11 := hb10.trans (hb11'.mono hb10.size)
  clear HK hb11'
  clear a0 a1 a2 a3 a4 a5 c0 c1 c2 c3 c4 c5
  go_wp2_with fail
  have HK := Lib.hid (rising_any (HL.out w11 hb11))
  rw [show risB [wa, wb, wc] = true from by decide] at HK
  refine (HK.out).mono ?_
  rintro e w12 ⟨rfl, hb12'⟩
  have hb12 : Below w4.heap.size w4 w12 := hb11.trans (hb12'.mono hb11.size)
  clear HK hb12'
  obtain ⟨a0, a1, a2, a3, a4, a5⟩ := box6 (HA.out w12 hb12)
  obtain ⟨c0, c1, c2, c3, c4, c5⟩ := box6 (HC.out w12 hb12)
  obtain ⟨w13, HX13⟩ : ∃ W : World, Hid (W = w12.alloc (.cells #[.int .i64 3, .int .i64 0, .int .i64 0, .int .i64 0, .int .i64 0, .int .i64 0, .int .i64 1, .int .i64 0, .int .i64 0, .int .i64 0, .int .i64 0, .int .i64 0] 41)) := ⟨_, Lib.hid rfl⟩
  have hb13 : Below w4.heap.size w4 w13 := by rw [HX13.out]; exact hb12.alloc hb12.size _
  have hz13 : w12.heap.size + 1 ≤ w13.heap.size := by rw [HX13.out]; simp
  have HE13 : Hid (EsB w13.heap.size w13 (.slice (some ⟨w12.heap.size, 0, none⟩) 2 2) [wc, wa]) := Lib.hid (by
    have h := es_lit w12 [wc, wa] #[.int .i64 3, .int .i64 0, .int .i64 0, .int .i64 0, .int .i64 0, .int .i64 0, .int .i64 1, .int .i64 0, .int .i64 0, .int .i64 0, .int .i64 0, .int .i64 0] rfl (by decide)
    rw [← HX13.out] at h
    exact RdB.mono h hz13)
  go_wp2_with (rw [← HX13.out])
  have HK := Lib.hid (rising_any HE13.out)
  rw [show risB [wc, wa] = false from by decide] at HK
  refine (HK.out).mono ?_
  rintro e w14 ⟨rfl, hb14'⟩
  have hb14 : Below w4.heap.size w4 w14 := hb13.trans (hb14'.mono hb13.size)
  clear HK hb14'
  clear a0 a1 a2 a3 a4 a5 c0 c1 c2 c3 c4 c5
  go_wp2_with fail
  refine (seals_any (HL.out w14 hb14) (by decide)).mono ?_
  rintro e w15 ⟨A, cv, rfl, ho, hb15'⟩
  rw [show seals [wa, wb, wc] = [2, 3] from by decide] at ho ⊢
  have hb15 : Below w4.heap.size w4 w15 := hb14.trans (hb15'.out.mono hb14.size)
  obtain ⟨w16, HX16⟩ : ∃ W : World, Hid (W = w15.alloc (.cells #[.int .i64 2, .int .i64 3] 3)) := ⟨_, Lib.hid rfl⟩
  have hb16 : Below w4.heap.size w4 w16 := by rw [HX16.out]; exact hb15.alloc hb15.size _
  have HI1 : Hid (RdB w15.heap.size w16 (.slice A [2, 3].length cv) [(2 : Int), 3].length [2, 3]) := Lib.hid (by
    have h := own_ints ho.out
    rw [HX16.out]
    exact RdB.below h ((Below.refl _ _).alloc (Nat.le_refl _) _) (Nat.le_refl _))
  have HI2 : Hid (RdB (w15.heap.size + 1) w16 (.slice (some ⟨w15.heap.size, 0, none⟩) 2 2) [(2 : Int), 3].length [2, 3]) := Lib.hid (by
    rw [HX16.out]
    refine ⟨_, 2, rfl, by decide, by decide, (fun e => by cases e), fun _ => ⟨w15.heap.size, 0, rfl, by omega, fun j x hj => ?_⟩⟩
    rw [Nat.zero_add, Lib.cell_of_heap (heap_alloc_new w15 _)]
    match j, hj with
    | 0, hj => simp at hj; subst hj; rfl
    | 1, hj => simp at hj; subst hj; rfl
    | j + 2, hj => simp at hj)
  clear ho hb15' hb15
  go_wp2_with (rw [← HX16.out])
  refine (sameInts_any HI1.out HI2.out).mono ?_
  rintro e w17 ⟨rfl, hb17'⟩
  have hb17 : Below w4.heap.size w4 w17 := hb16.trans (hb17'.mono hb16.size)
  go_wp2_with fail
  go_ret
  exact ⟨rfl, hb04.trans (hb17.mono hb04.size)⟩
end Go.Proofs.Ytffjijgmjbhhoaa
