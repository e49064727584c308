/-
  Entries of the document's records: their marks.
-/
import Derived.Test.YtkdnhfeamibmdaaDoorRcInts
import Derived.Test.YtkdnhfeamibmdaaDoorRcPutAll
import Derived.Deep.RegionHeld3
namespace Go.Proofs.YtkdnhfeamibmdaaDoor
open Go.RowKit Go.Sort
theorem str_len {l : List UInt8} {S : ByteArray} (h : S = ⟨l.toArray⟩) : S.size = l.length := by
  rw [h]; show l.toArray.size = _; rw [List.size_toArray]
set_option maxRecDepth 100000 in
set_option maxHeartbeats 8000000 in
theorem rentries_any {es : List En} {v : Value} {w : World} (hE : EsB w.heap.size w v es) (hi : ∀ e ∈ es, IntsOk e.l) (hn : es.length ≤ 256) :
    Calls Tryd.prog 34 #[v] w (StrPost ⟨(markL (esL es)).toArray⟩ w) := by
  have HC := Lib.hid (fun X (hb : Below w.heap.size w X) k (hk : k < es.length) => EsB.cells (hE.below hb (Nat.le_refl _)) hk)
  have HI := Lib.hid hi
  have HLB := Lib.hid (esL_bd hi hn)
  obtain ⟨A, c, rfl, h1, h2, -⟩ := hE.len
  unfold maxLen at h2
  obtain ⟨w1, HX1⟩ : ∃ W : World, Hid (W = w.alloc (.cells #[.int .i64 (es.length : Int)] 3)) := ⟨_, Lib.hid rfl⟩
  have hb1 : Below w.heap.size w w1 := by rw [HX1.out]; exact (Below.refl _ _).alloc (Nat.le_refl _) _
  have hr : IntRow w1 w.heap.size [(es.length : Int)] := by rw [HX1.out]; exact heap_alloc_new _ _
  obtain ⟨S0, HS0⟩ : ∃ S : ByteArray, Hid (S = ⟨(markL [(es.length : Int)]).toArray⟩) := ⟨_, Lib.hid rfl⟩
  have G0 : Hid (Calls Tryd.prog 33 #[.slice (some ⟨w.heap.size, 0, none⟩) 1 1] w1 (StrPost S0 w1)) := by
    show Calls _ _ _ _ _
    rw [HS0.out]
    exact rints_any hr (by intro x hx; simp at hx; subst hx; omega) (by simp)
  have HB1 := Lib.hid hb1
  clear hE hi hn hb1 hr
  go_enter Tryd.func34, Tryd.ntmps34
  go_wp2_with (rw [← HX1.out])
  refine (G0.out).mono ?_
  rintro e w2 ⟨rfl, hb⟩
  have HB2 := Lib.hid (HB1.out.trans (hb.mono HB1.out.size))
  clear hb
  go_wp2_with fail
  go_loopw [3, 4] (fun s i wr => ∃ (k : Nat) (S : ByteArray), k ≤ es.length ∧ i = .int .i64 k ∧ s = .string S ∧ Hid (S = ⟨(markL ((es.length : Int) :: ((es.take k).map En.l).flatten)).toArray⟩) ∧ Hid (Below w.heap.size w wr)) (fun _ i _ => es.length - (intOf i).toNat)
  case atStart => exact ⟨0, S0, Nat.zero_le _, rfl, rfl, HS0, HB2⟩
  case round =>
    obtain ⟨k, S, hk, rfl, rfl, HS, HB⟩ := hrel
    by_cases hlt : k < es.length
    · obtain ⟨b1, o1, c1', hv, hbb1, x0, x1, x2, x3, x4, x5⟩ := HC.out wr HB.out k hlt
      injection hv with e1 e2 e3
      subst e1 e3
      clear e2
      have hii : (k : Int) < (es.length : Int) := by omega
      have HT := Lib.hid (esL_take hlt)
      have hs1 : S.size ≤ 20000 := by rw [str_len HS.out]; exact HLB.out k
      have hix := HI.out es[k] (List.getElem_mem hlt)
      have hwr := HB.out.size
      generalize es[k] = x at *
      obtain ⟨ep, oi, os_, oe, ok, oa⟩ := x
      simp only at x0 x1 x2 x3 x4 x5
      obtain ⟨S2, HS2⟩ : ∃ S : ByteArray, Hid (S = ⟨(markL (En.l ⟨ep, oi, os_, oe, ok, oa⟩)).toArray⟩) := ⟨_, Lib.hid rfl⟩
      have hs2 : S2.size ≤ 20000 := by
        rw [str_len HS2.out]
        have := (markL_len hix).2
        simp [En.l, Od.l] at this ⊢
        omega
      obtain ⟨w6, HX6⟩ : ∃ W : World, Hid (W = wr.alloc (.cells #[.int .i64 oi, .int .i64 os_, .int .i64 oe, .int .i64 ok, .int .i64 oa] 28)) := ⟨_, Lib.hid rfl⟩
      have hb6 : Below wr.heap.size wr w6 := by rw [HX6.out]; exact (Below.refl _ _).alloc (Nat.le_refl _) _
      have h_o6 : w6.heap[wr.heap.size]? = some (.cells #[.int .i64 oi, .int .i64 os_, .int .i64 oe, .int .i64 ok, .int .i64 oa] 28 (0, 0)) := by rw [HX6.out]; exact heap_alloc_new _ _
      have hz6 : wr.heap.size < w6.heap.size := by rw [HX6.out]; simp
      have HB6 := Lib.hid (HB.out.trans (hb6.mono hwr))
      have hbl : b1 < wr.heap.size := Nat.lt_of_lt_of_le hbb1 hwr
      have hbl6 : b1 < w6.heap.size := by omega
      have y0 := (hb6.cell (p := ⟨b1, o1 + k * 6, none⟩) hbl).trans x0
      have z0 : w6.cell? ⟨wr.heap.size, 0, none⟩ = some (.int .i64 oi) := by rw [Lib.cell_of_heap h_o6]; rfl
      have z1 : w6.cell? ⟨wr.heap.size, 1, none⟩ = some (.int .i64 os_) := by rw [Lib.cell_of_heap h_o6]; rfl
      have z2 : w6.cell? ⟨wr.heap.size, 2, none⟩ = some (.int .i64 oe) := by rw [Lib.cell_of_heap h_o6]; rfl
      have z3 : w6.cell? ⟨wr.heap.size, 3, none⟩ = some (.int .i64 ok) := by rw [Lib.cell_of_heap h_o6]; rfl
      have z4 : w6.cell? ⟨wr.heap.size, 4, none⟩ = some (.int .i64 oa) := by rw [Lib.cell_of_heap h_o6]; rfl
      obtain ⟨w7, HX7⟩ : ∃ W : World, Hid (W = (w6.alloc (.cells #[.int .i64 ep, .int .i64 oi, .int .i64 os_, .int .i64 oe, .int .i64 ok, .int .i64 oa] 3)).drew) := ⟨_, Lib.hid rfl⟩
      have hb7 : Below w6.heap.size w6 w7 := by rw [HX7.out]; exact ((Below.refl _ _).alloc (Nat.le_refl _) _).drew
      have hr7 : IntRow w7 w6.heap.size (En.l ⟨ep, oi, os_, oe, ok, oa⟩) := by rw [HX7.out]; exact heap_alloc_new w6 _
      have G7 : Hid (Calls Tryd.prog 33 #[.slice (some ⟨w6.heap.size, 0, none⟩) 6 6] w7 (StrPost S2 w7)) := by
        show Calls _ _ _ _ _
        rw [HS2.out]
        exact rints_any hr7 hix (by simp [En.l, Od.l])
      rw [HX7.out] at G7
      have HH7 := Lib.hid hb7
      have n0 := World.new_ne w6.drew ⟨b1, o1 + k * 6, none⟩ (u := .int .i64 ep) y0
      have n1 := World.new_ne w6.drew ⟨wr.heap.size, 0, none⟩ (u := .int .i64 oi) z0
      have hs3 : S.size + S2.size ≤ 9223372036854775807 := by omega
      have RS : ∀ X, (Op.stringOp .add S S2).run Tryd.prog X = .ok (.string (S ++ S2)) X := fun X => run_string_add_sum X S S2 hs3
      have hs4 : ¬ (S.size + S2.size > 9223372036854775807) := by omega
      clear hr7 hix h_o6 hb6 hb7
      go_wp2_with (rw [← HX6.out])
      go_region_held3 (fun X => X.cell? ⟨b1, o1 + k * 6, none⟩ = some (.int .i64 ep) ∧ X.cell? ⟨wr.heap.size, 0, none⟩ = some (.int .i64 oi) ∧ X.cell? ⟨wr.heap.size, 1, none⟩ = some (.int .i64 os_) ∧ X.cell? ⟨wr.heap.size, 2, none⟩ = some (.int .i64 oe) ∧ X.cell? ⟨wr.heap.size, 3, none⟩ = some (.int .i64 ok) ∧ X.cell? ⟨wr.heap.size, 4, none⟩ = some (.int .i64 oa))
        (first | exact hS | go_keep) ((go_at_call 33; (refine (G7.out).mono ?_); rintro e w8 ⟨rfl, hb⟩; have hB8 : Below w6.heap.size w6 w8 := (((Below.refl _ _).alloc (Nat.le_refl _) _).drew.trans (hb.mono (by simp))); have hS : w8.cell? ⟨b1, o1 + k * 6, none⟩ = some (.int .i64 ep) ∧ w8.cell? ⟨wr.heap.size, 0, none⟩ = some (.int .i64 oi) ∧ w8.cell? ⟨wr.heap.size, 1, none⟩ = some (.int .i64 os_) ∧ w8.cell? ⟨wr.heap.size, 2, none⟩ = some (.int .i64 oe) ∧ w8.cell? ⟨wr.heap.size, 3, none⟩ = some (.int .i64 ok) ∧ w8.cell? ⟨wr.heap.size, 4, none⟩ = some (.int .i64 oa) := ⟨(hB8.cell (p := ⟨b1, o1 + k * 6, none⟩) hbl6).trans y0, (hB8.cell (p := ⟨wr.heap.size, 0, none⟩) hz6).trans z0, (hB8.cell (p := ⟨wr.heap.size, 1, none⟩) hz6).trans z1, (hB8.cell (p := ⟨wr.heap.size, 2, none⟩) hz6).trans z2, (hB8.cell (p := ⟨wr.heap.size, 3, none⟩) hz6).trans z3, (hB8.cell (p := ⟨wr.heap.size, 4, none⟩) hz6).trans z4⟩))
      have HB8 := Lib.hid (HB6.out.trans (hB8.mono HB6.out.size))
      have HSS : Hid (S ++ S2 = ⟨(markL ((es.length : Int) :: ((es.take (k + 1)).map En.l).flatten)).toArray⟩) := by show _ = _; rw [HS.out, HS2.out, str_mk, HT.out]
      clear hB8 hS hb y0 z0 z1 z2 z3 z4 n0 n1 HS HS2
      go_wp2_with fail
      go_roundw
      case rel => exact ⟨k + 1, S ++ S2, by omega, by go_num, rfl, HSS, HB8⟩
      case measure => simp [intOf]; omega
    · have HX : Hid (S = ⟨(markL (esL es)).toArray⟩) := by show _ = _; rw [HS.out, List.take_of_length_le (by omega)]; rfl
      clear hk HS
      go_wp2_with fail
      go_ret
      exact ⟨by rw [← HX.out]; rfl, HB.out⟩
end Go.Proofs.YtkdnhfeamibmdaaDoor
