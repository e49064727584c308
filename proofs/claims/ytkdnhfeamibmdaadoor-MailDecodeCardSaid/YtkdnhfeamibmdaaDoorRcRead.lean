/-
  read of package records: what a text's marks come to.
-/
import Derived.Test.YtkdnhfeamibmdaaDoorRcGetAll
namespace Go.Proofs.YtkdnhfeamibmdaaDoor
open Go.RowKit
def OwnE (w : World) (base : Nat) (v : Value) (es : List En) : Prop := w.ownsRow base 30 6 v es.length ((es.map En.l).flatten.map (Value.int .i64))
def OwnF (w : World) (base : Nat) (v : Value) (fd : List Sp) : Prop := w.ownsRow base 32 2 v fd.length ((fd.map Sp.l).flatten.map (Value.int .i64))
def recV0 : Value := .agg #[.int .i64 0, .int .i64 0, .int .i64 0, .int .i64 0, .int .i64 0, .int .i64 0, .slice none 0 0, .slice none 0 0]
def ReadPost (s : ByteArray) (w : World) (e : Ending) (w' : World) : Prop :=
  Below w.heap.size w w' ∧ ((rd (bytesOf s) = none ∧ e = .returned (.tuple #[recV0, .bool false])) ∨
    ∃ (r : Rec) (A A' : Option Addr) (c c' : Nat), rd (bytesOf s) = some r ∧ e = .returned (.tuple #[r.v (.slice A r.es.length c) (.slice A' r.fd.length c'), .bool true]) ∧
      OwnE w' w.heap.size (.slice A r.es.length c) r.es ∧ OwnF w' w.heap.size (.slice A' r.fd.length c') r.fd)
theorem drew_at (w : World) (k : Nat) : w.drew.heap[k]? = w.heap[k]? := rfl
theorem owns_weaken {w : World} {base base' : Nat} {e : TypeId} {size n : Nat} {v : Value} {xs : List Value} (h : w.ownsRow base e size v n xs) (hb : base' ≤ base) : w.ownsRow base' e size v n xs := by
  refine ⟨h.1, ?_⟩
  rcases h.2 with h' | ⟨g, cap, cur, rfl, hg, rest⟩
  · exact .inl h'
  · exact .inr ⟨g, cap, cur, rfl, Nat.le_trans hb hg, rest⟩
theorem own_shape {w : World} {base n size : Nat} {e : TypeId} {v : Value} {xs : List Value} (h : w.ownsRow base e size v n xs) : ∃ A c, v = .slice A n c := by
  rcases h.2 with ⟨rfl, rfl⟩ | ⟨g, cap, cur, rfl, _⟩
  · exact ⟨none, 0, rfl⟩
  · exact ⟨_, _, rfl⟩
set_option maxRecDepth 100000 in
set_option maxHeartbeats 4000000 in
theorem read_any {s : ByteArray} (hs : s.size ≤ 1000000) {w : World} (hA : AskR w) : Calls Tryd.prog 40 #[.string s] w (ReadPost s w) := by
  obtain ⟨w0, HW0⟩ : ∃ w0, Hid (w0 = ((w.alloc (.cells #[.int .i64 0, .int .i64 0, .int .i64 0, .int .i64 0, .int .i64 0, .int .i64 0, .slice none 0 0, .slice none 0 0] 25)).alloc (.cells #[.string s, .int .i64 0, .bool false] 108)).alloc (.cells #[.pointer (some ⟨w.heap.size + 1, 0, none⟩)] 106)) := ⟨_, Lib.hid rfl⟩
  have hb0 : Below w.heap.size w w0 := by rw [HW0.out]; exact (((Below.refl _ _).alloc (Nat.le_refl _) _).alloc (by simp) _).alloc (by simp; omega) _
  have hs0 : w0.heap.size = w.heap.size + 3 := by rw [HW0.out]; simp
  have hx0 : w0.heap[w.heap.size]? = some (.cells #[.int .i64 0, .int .i64 0, .int .i64 0, .int .i64 0, .int .i64 0, .int .i64 0, .slice none 0 0, .slice none 0 0] 25 (0, 0)) := by
    rw [HW0.out, Below.heap_alloc _ _ _ (by simp; omega)]; exact heap_alloc2_old _ _ _
  have hr0 : RdAt w0 (w.heap.size + 1) s ((0 : Nat)) false := by
    unfold RdAt
    rw [HW0.out, Below.heap_alloc _ _ _ (by simp)]; exact heap_alloc2_new _ _ _
  have hp0 : PtrVar w0 (w.heap.size + 2) (w.heap.size + 1) := by
    unfold PtrVar
    rw [HW0.out]
    have h := heap_alloc_new ((w.alloc (.cells #[.int .i64 0, .int .i64 0, .int .i64 0, .int .i64 0, .int .i64 0, .int .i64 0, .slice none 0 0, .slice none 0 0] 25)).alloc (.cells #[.string s, .int .i64 0, .bool false] 108)) (.cells #[.pointer (some ⟨w.heap.size + 1, 0, none⟩)] 106)
    rw [show ((w.alloc (.cells #[.int .i64 0, .int .i64 0, .int .i64 0, .int .i64 0, .int .i64 0, .int .i64 0, .slice none 0 0, .slice none 0 0] 25)).alloc (.cells #[.string s, .int .i64 0, .bool false] 108)).heap.size = w.heap.size + 2 by simp] at h
    exact h
  have G1 := Lib.hid (next_any hs hr0 (show 6 ≤ 6 by omega) (Nat.zero_le _))
  rw [HW0.out] at G1
  have HAK := Lib.hid (fun X (hb : Below w.heap.size w X) => hA.keep hb)
  have HB0 := Lib.hid hb0
  have HS0 := Lib.hid hs0
  have HX0 := Lib.hid hx0
  have HP0 := Lib.hid hp0
  have hL := nx_len (bytesOf s) 6 0
  have hbd0 : (nx (bytesOf s) 6 0).2.1 ≤ (bytesOf s).length := nx_bd (Nat.zero_le _)
  have HRES : Hid (rd (bytesOf s) = if rdBad (bytesOf s) = true ∨ rdEnd (bytesOf s) ≠ (bytesOf s).length then .none else some (rdR (bytesOf s))) := rfl
  have HBAD : Hid (rdBad (bytesOf s) = (((nx (bytesOf s) 6 0).2.2 || (lst (bytesOf s) 6 64 (nx (bytesOf s) 6 0).2.1).2.2) || (lst (bytesOf s) 2 256 (lst (bytesOf s) 6 64 (nx (bytesOf s) 6 0).2.1).2.1).2.2)) := rfl
  have HEND : Hid (rdEnd (bytesOf s) = (lst (bytesOf s) 2 256 (lst (bytesOf s) 6 64 (nx (bytesOf s) 6 0).2.1).2.1).2.1) := rfl
  have HREC : Hid (rdR (bytesOf s) = recOf (nx (bytesOf s) 6 0).1 (lst (bytesOf s) 6 64 (nx (bytesOf s) 6 0).2.1).1 (lst (bytesOf s) 2 256 (lst (bytesOf s) 6 64 (nx (bytesOf s) 6 0).2.1).2.1).1) := rfl
  have HROW1 := Lib.hid (fun (r : List Int) (hr : r ∈ (lst (bytesOf s) 6 64 (nx (bytesOf s) 6 0).2.1).1) => (lst_row r hr).1)
  have HROW2 := Lib.hid (fun (r : List Int) (hr : r ∈ (lst (bytesOf s) 2 256 (lst (bytesOf s) 6 64 (nx (bytesOf s) 6 0).2.1).2.1).1) => (lst_row r hr).1)
  have hbd1 : (lst (bytesOf s) 6 64 (nx (bytesOf s) 6 0).2.1).2.1 ≤ (bytesOf s).length := lst_bd hbd0
  rw [bytes_len] at hbd0 hbd1
  clear hb0 hs0 hx0 hr0 hp0 hA
  go_enter Tryd.func40, Tryd.ntmps40
  go_wp2_with fail
  refine (G1.out).mono ?_
  rintro e w1 ⟨g, rfl, hg, hrow, hrd, hft⟩
  rw [← HW0.out] at hg hft
  generalize rdBad (bytesOf s) = bad at *
  generalize rdEnd (bytesOf s) = fin at *
  generalize rdR (bytesOf s) = rec at *
  obtain ⟨res, HRR⟩ : ∃ res, Hid (rd (bytesOf s) = res) := ⟨_, Lib.hid rfl⟩
  rw [HRR.out] at HRES
  generalize hN : nx (bytesOf s) 6 0 = N at *
  clear hN G1
  obtain ⟨row, a1, bad1⟩ := N
  dsimp only at hL hrow hrd HBAD HEND HREC HROW1 HROW2 hbd0 hbd1
  obtain ⟨x0, x1, x2, x3, x4, x5, rfl⟩ : ∃ x0 x1 x2 x3 x4 x5, row = [x0, x1, x2, x3, x4, x5] := by
    match row, hL with
    | [x0, x1, x2, x3, x4, x5], _ => exact ⟨x0, x1, x2, x3, x4, x5, rfl⟩
  have hsz1 := hft.size
  have hs0' := HS0.out
  have hX1 := hft.kept HX0.out (by omega)
  have hP1 := HP0.out.foot hft (by omega)
  have r0 : w1.cell? ⟨g, 0, none⟩ = some (.int .i64 x0) := by rw [Lib.cell_of_heap hrow]; rfl
  have r1 : w1.cell? ⟨g, 1, none⟩ = some (.int .i64 x1) := by rw [Lib.cell_of_heap hrow]; rfl
  have r2 : w1.cell? ⟨g, 2, none⟩ = some (.int .i64 x2) := by rw [Lib.cell_of_heap hrow]; rfl
  have r3 : w1.cell? ⟨g, 3, none⟩ = some (.int .i64 x3) := by rw [Lib.cell_of_heap hrow]; rfl
  have r4 : w1.cell? ⟨g, 4, none⟩ = some (.int .i64 x4) := by rw [Lib.cell_of_heap hrow]; rfl
  have r5 : w1.cell? ⟨g, 5, none⟩ = some (.int .i64 x5) := by rw [Lib.cell_of_heap hrow]; rfl
  have b0 : w1.cell? ⟨w.heap.size, 0, none⟩ = some (.int .i64 0) := by rw [Lib.cell_of_heap hX1]; rfl
  have b1 : w1.cell? ⟨w.heap.size, 1, none⟩ = some (.int .i64 0) := by rw [Lib.cell_of_heap hX1]; rfl
  have b2 : w1.cell? ⟨w.heap.size, 2, none⟩ = some (.int .i64 0) := by rw [Lib.cell_of_heap hX1]; rfl
  have b3 : w1.cell? ⟨w.heap.size, 3, none⟩ = some (.int .i64 0) := by rw [Lib.cell_of_heap hX1]; rfl
  have b4 : w1.cell? ⟨w.heap.size, 4, none⟩ = some (.int .i64 0) := by rw [Lib.cell_of_heap hX1]; rfl
  have b5 : w1.cell? ⟨w.heap.size, 5, none⟩ = some (.int .i64 0) := by rw [Lib.cell_of_heap hX1]; rfl
  have b6 : w1.cell? ⟨w.heap.size, 6, none⟩ = some (.slice none 0 0) := by rw [Lib.cell_of_heap hX1]; rfl
  have b7 : w1.cell? ⟨w.heap.size, 7, none⟩ = some (.slice none 0 0) := by rw [Lib.cell_of_heap hX1]; rfl
  have f0 : w1.frozen? ⟨w.heap.size, 0, none⟩ = false := Lib.frozen_of_heap hX1 _
  have f1 : w1.frozen? ⟨w.heap.size, 1, none⟩ = false := Lib.frozen_of_heap hX1 _
  have f2 : w1.frozen? ⟨w.heap.size, 2, none⟩ = false := Lib.frozen_of_heap hX1 _
  have f3 : w1.frozen? ⟨w.heap.size, 3, none⟩ = false := Lib.frozen_of_heap hX1 _
  have f4 : w1.frozen? ⟨w.heap.size, 4, none⟩ = false := Lib.frozen_of_heap hX1 _
  have f5 : w1.frozen? ⟨w.heap.size, 5, none⟩ = false := Lib.frozen_of_heap hX1 _
  have f6 : w1.frozen? ⟨w.heap.size, 6, none⟩ = false := Lib.frozen_of_heap hX1 _
  have f7 : w1.frozen? ⟨w.heap.size, 7, none⟩ = false := Lib.frozen_of_heap hX1 _
  have hz1 : w.heap.size < w1.heap.size := by omega
  have hgl := hrow.lt
  have HG := Lib.hid hg
  obtain ⟨w2, HW2⟩ : ∃ w2, Hid (w2 = ((((((((w1.setCell ⟨w.heap.size, 0, none⟩ (.int .i64 x0)).setCell ⟨w.heap.size, 1, none⟩ (.int .i64 x1)).setCell ⟨w.heap.size, 2, none⟩ (.int .i64 x2)).setCell ⟨w.heap.size, 3, none⟩ (.int .i64 x3)).setCell ⟨w.heap.size, 4, none⟩ (.int .i64 x4)).setCell ⟨w.heap.size, 5, none⟩ (.int .i64 x5)).setCell ⟨w.heap.size, 6, none⟩ (.slice none 0 0)).setCell ⟨w.heap.size, 7, none⟩ (.slice none 0 0)).drew) := ⟨_, Lib.hid rfl⟩
  have HF2 : Hid (Foot (fun j => j = w.heap.size) w1 w2) := by
    show Foot _ _ _
    rw [HW2.out]
    refine Foot.trans ?_ (Foot.drew (fun j => j = w.heap.size) _) (fun _ _ h => h)
    repeat' (first | (with_reducible exact Foot.refl _ _) | (with_reducible refine Foot.trans ?_ (Foot.set (fun j => j = w.heap.size) _ _ _ rfl) (fun _ _ h => h)))
  have HX2 : Hid (w2.heap[w.heap.size]? = some (.cells #[.int .i64 x0, .int .i64 x1, .int .i64 x2, .int .i64 x3, .int .i64 x4, .int .i64 x5, .slice none 0 0, .slice none 0 0] 25 (0, 0))) := by
    show _ = _
    rw [HW2.out]
    have h0 := heap_set (i := 0) (.int .i64 x0) hX1
    have h1 := heap_set (i := 1) (.int .i64 x1) h0
    have h2 := heap_set (i := 2) (.int .i64 x2) h1
    have h3 := heap_set (i := 3) (.int .i64 x3) h2
    have h4 := heap_set (i := 4) (.int .i64 x4) h3
    have h5 := heap_set (i := 5) (.int .i64 x5) h4
    have h6 := heap_set (i := 6) (.slice none 0 0) h5
    have h7 := heap_set (i := 7) (.slice none 0 0) h6
    simp only [Array.set!_eq_setIfInBounds, List.setIfInBounds_toArray, List.set_cons_zero, List.set_cons_succ] at h7
    rw [drew_at]
    with_reducible exact h7
  have hrd2 := hrd.foot HF2.out (by omega)
  have HP2 := Lib.hid (hP1.foot HF2.out (by omega))
  have HB2 : Hid (Below w.heap.size w w2) := by
    show Below _ _ _
    have h1 : Foot (fun j => j = w.heap.size + 1) w w1 := (below_foot HB0.out : Foot (fun j => j = w.heap.size + 1) w w0).trans hft (fun _ _ h => h)
    exact ((h1.mono (S' := fun j => j = w.heap.size + 1 ∨ j = w.heap.size) (fun _ _ h => .inl h)).trans HF2.out (fun _ _ h => .inr h)).below (fun k hk => ⟨hk, by omega⟩)
  clear hrow hrd hft hX1 hP1 hg
  go_wp2_with fail
  go_still_tail 19, (by kernel_rfl)
  change wpList _ _ _ _ _ w1.drew
  have hs2 : w.heap.size + 2 < w2.heap.size := by have := HF2.out.size; omega
  obtain ⟨_, _, _, _, ⟨l0, l1⟩, _, _, hgz⟩ := HAK.out _ HB2.out
  have p0 := HP2.out.cell
  rw [HW2.out] at l1 p0
  go_wp2_with fail
  clear r0 r1 r2 r3 r4 r5 b0 b1 b2 b3 b4 b5 b6 b7 f0 f1 f2 f3 f4 f5 f6 f7 l0 l1 p0
  have G2 := Lib.hid (getAll_es hs hrd2 hbd0 HP2.out (by omega) (show 64 ≤ 1000 by omega))
  rw [HW2.out] at G2
  refine (G2.out).mono ?_
  rintro e w3 ⟨v, rfl, hown, hrd, hft⟩
  rw [← HW2.out] at hown hft
  clear hrd2 G2
  generalize hL1 : lst (bytesOf s) 6 64 a1 = L1 at *
  clear hL1
  obtain ⟨rows1, a2, bad2⟩ := L1
  dsimp only at hown hrd HBAD HEND HREC HROW1 HROW2 hbd1
  obtain ⟨A, c, rfl⟩ := own_shape hown
  have hsz3 := hft.size
  have hX3 := hft.kept HX2.out (by omega)
  have hP3 := HP2.out.foot hft (by omega)
  have b6 : w3.cell? ⟨w.heap.size, 6, none⟩ = some (.slice none 0 0) := by rw [Lib.cell_of_heap hX3]; rfl
  have f6 : w3.frozen? ⟨w.heap.size, 6, none⟩ = false := Lib.frozen_of_heap hX3 _
  obtain ⟨w4, HW4⟩ : ∃ w4, Hid (w4 = w3.setCell ⟨w.heap.size, 6, none⟩ (.slice A rows1.length c)) := ⟨_, Lib.hid rfl⟩
  have HF4 : Hid (Foot (fun j => j = w.heap.size) w3 w4) := by
    show Foot _ _ _
    rw [HW4.out]
    exact Foot.set (fun j => j = w.heap.size) _ _ _ rfl
  have HX4 : Hid (w4.heap[w.heap.size]? = some (.cells #[.int .i64 x0, .int .i64 x1, .int .i64 x2, .int .i64 x3, .int .i64 x4, .int .i64 x5, .slice A rows1.length c, .slice none 0 0] 25 (0, 0))) := by
    show _ = _
    rw [HW4.out]
    have h7 := heap_set (i := 6) (.slice A rows1.length c) hX3
    simp only [Array.set!_eq_setIfInBounds, List.setIfInBounds_toArray, List.set_cons_zero, List.set_cons_succ] at h7
    exact h7
  have hrd4 := hrd.foot HF4.out (by omega)
  have HP4 := Lib.hid (hP3.foot HF4.out (by omega))
  have HOE := Lib.hid (owns_foot hown HF4.out (fun j hj e => by have := (World.ownsRow.lt hown j hj).1; omega))
  have HB4 : Hid (Below w.heap.size w w4) := HB2.out.trans (((hft.mono (S' := fun j => j = w.heap.size + 1 ∨ j = w.heap.size) (fun _ _ h => .inl h)).trans HF4.out (fun _ _ h => .inr h)).below (fun k hk => ⟨by omega, by omega⟩))
  have hs4 : w.heap.size + 2 < w4.heap.size := by have := HF4.out.size; omega
  have HS24 := Lib.hid (show w2.heap.size ≤ w4.heap.size by have := HF4.out.size; omega)
  obtain ⟨_, _, _, _, _, _, ⟨l0, l1⟩, hgz⟩ := HAK.out _ HB4.out
  have p0 := HP4.out.cell
  have G3 := Lib.hid (getAll_fd hs hrd4 hbd1 HP4.out (by omega) (show 256 ≤ 1000 by omega))
  rw [HW4.out] at l1 p0 G3
  clear hrd hft hX3 hP3 hown
  go_wp2_with fail
  clear l0 l1 p0 b6 f6
  refine (G3.out).mono ?_
  rintro e w5 ⟨v, rfl, hown, hrd, hft⟩
  rw [← HW4.out] at hown hft
  clear hrd4 G3
  generalize hL2 : lst (bytesOf s) 2 256 a2 = L2 at *
  clear hL2
  obtain ⟨rows2, a3, bad3⟩ := L2
  dsimp only at hown hrd HBAD HEND HREC HROW2
  obtain ⟨A', c', rfl⟩ := own_shape hown
  have hsz5 := hft.size
  have hX5 := hft.kept HX4.out (by omega)
  have hP5 := HP4.out.foot hft (by omega)
  have HOE5 := Lib.hid (owns_foot HOE.out hft (fun j hj e => by have := (World.ownsRow.lt HOE.out j hj).1; omega))
  have b7 : w5.cell? ⟨w.heap.size, 7, none⟩ = some (.slice none 0 0) := by rw [Lib.cell_of_heap hX5]; rfl
  have f7' : w5.frozen? ⟨w.heap.size, 7, none⟩ = false := Lib.frozen_of_heap hX5 _
  obtain ⟨w6, HW6⟩ : ∃ w6, Hid (w6 = w5.setCell ⟨w.heap.size, 7, none⟩ (.slice A' rows2.length c')) := ⟨_, Lib.hid rfl⟩
  have HF6 : Hid (Foot (fun j => j = w.heap.size) w5 w6) := by
    show Foot _ _ _
    rw [HW6.out]
    exact Foot.set (fun j => j = w.heap.size) _ _ _ rfl
  have HX6 : Hid (w6.heap[w.heap.size]? = some (.cells #[.int .i64 x0, .int .i64 x1, .int .i64 x2, .int .i64 x3, .int .i64 x4, .int .i64 x5, .slice A rows1.length c, .slice A' rows2.length c'] 25 (0, 0))) := by
    show _ = _
    rw [HW6.out]
    have h7 := heap_set (i := 7) (.slice A' rows2.length c') hX5
    simp only [Array.set!_eq_setIfInBounds, List.setIfInBounds_toArray, List.set_cons_zero, List.set_cons_succ] at h7
    exact h7
  have hrd6 := hrd.foot HF6.out (by omega)
  have HP6 := Lib.hid (hP5.foot HF6.out (by omega))
  have HOE6 := Lib.hid (owns_foot HOE5.out HF6.out (fun j hj e => by have := (World.ownsRow.lt HOE5.out j hj).1; omega))
  have HOF6 := Lib.hid (owns_foot hown HF6.out (fun j hj e => by have := (World.ownsRow.lt hown j hj).1; omega))
  have HB6 : Hid (Below w.heap.size w w6) := HB4.out.trans (((hft.mono (S' := fun j => j = w.heap.size + 1 ∨ j = w.heap.size) (fun _ _ h => .inl h)).trans HF6.out (fun _ _ h => .inr h)).below (fun k hk => ⟨by omega, by omega⟩))
  have hs6 : w.heap.size + 2 < w6.heap.size := by have := HF6.out.size; omega
  have HBD : Hid ((false || bad1 || bad2 || bad3) = bad) := by show _ = _; rw [HBAD.out]; simp
  rw [HBD.out] at hrd6
  rw [← HEND.out] at hrd6
  obtain ⟨q0, q1, q2, -, -⟩ := hrd6.cells
  have p0 := HP6.out.cell
  have c0 : w6.cell? ⟨w.heap.size, 0, none⟩ = some (.int .i64 x0) := by rw [Lib.cell_of_heap HX6.out]; rfl
  have c1 : w6.cell? ⟨w.heap.size, 1, none⟩ = some (.int .i64 x1) := by rw [Lib.cell_of_heap HX6.out]; rfl
  have c2 : w6.cell? ⟨w.heap.size, 2, none⟩ = some (.int .i64 x2) := by rw [Lib.cell_of_heap HX6.out]; rfl
  have c3 : w6.cell? ⟨w.heap.size, 3, none⟩ = some (.int .i64 x3) := by rw [Lib.cell_of_heap HX6.out]; rfl
  have c4 : w6.cell? ⟨w.heap.size, 4, none⟩ = some (.int .i64 x4) := by rw [Lib.cell_of_heap HX6.out]; rfl
  have c5 : w6.cell? ⟨w.heap.size, 5, none⟩ = some (.int .i64 x5) := by rw [Lib.cell_of_heap HX6.out]; rfl
  have c6 : w6.cell? ⟨w.heap.size, 6, none⟩ = some (.slice A rows1.length c) := by rw [Lib.cell_of_heap HX6.out]; rfl
  have c7 : w6.cell? ⟨w.heap.size, 7, none⟩ = some (.slice A' rows2.length c') := by rw [Lib.cell_of_heap HX6.out]; rfl
  have f0 : w6.frozen? ⟨w.heap.size, 0, none⟩ = false := Lib.frozen_of_heap HX6.out _
  have f1 : w6.frozen? ⟨w.heap.size, 1, none⟩ = false := Lib.frozen_of_heap HX6.out _
  have f2 : w6.frozen? ⟨w.heap.size, 2, none⟩ = false := Lib.frozen_of_heap HX6.out _
  have f3 : w6.frozen? ⟨w.heap.size, 3, none⟩ = false := Lib.frozen_of_heap HX6.out _
  have f4 : w6.frozen? ⟨w.heap.size, 4, none⟩ = false := Lib.frozen_of_heap HX6.out _
  have f5 : w6.frozen? ⟨w.heap.size, 5, none⟩ = false := Lib.frozen_of_heap HX6.out _
  have f6 : w6.frozen? ⟨w.heap.size, 6, none⟩ = false := Lib.frozen_of_heap HX6.out _
  have f7 : w6.frozen? ⟨w.heap.size, 7, none⟩ = false := Lib.frozen_of_heap HX6.out _
  have HLE : Hid ((bytesOf s).length = s.size) := bytes_len s
  have HO1 := Lib.hid (map_enOf HROW1.out)
  have HO2 := Lib.hid (map_spOf HROW2.out)
  have HBE := Lib.hid (fun j (hj : Value.ownBlock (.slice A rows1.length c) = some j) => (World.ownsRow.lt HOE6.out j hj).1)
  have HBF := Lib.hid (fun j (hj : Value.ownBlock (.slice A' rows2.length c') = some j) => (World.ownsRow.lt HOF6.out j hj).1)
  rw [HW6.out] at q0 q1 q2 p0 c0 c1 c2 c3 c4 c5 c6 c7 f0 f1 f2 f3 f4 f5 f6 f7
  have hz5 : w.heap.size < w5.heap.size := by omega
  have HB6' : Hid (Below w.heap.size w (w5.setCell ⟨w.heap.size, 7, none⟩ (.slice A' rows2.length c'))) := by rw [← HW6.out]; exact HB6.out
  have hoe := HOE6.out
  have hof := HOF6.out
  rw [HW6.out] at hoe hof
  have HOE6' := Lib.hid hoe
  have HOF6' := Lib.hid hof
  clear hoe hof
  clear hrd hft hX5 hP5 hown hrd6
  cases bad
  · by_cases hfin : fin = s.size
    · subst hfin
      have HRS : Hid (res = some rec) := by show _ = _; rw [HRES.out, if_neg]; rw [HLE.out]; simp
      go_wp2_with fail
      (try simp only [Exit.inBlock, Exit.then]); refine bodyPost_ret (v := .tuple #[.agg #[.int .i64 x0, .int .i64 x1, .int .i64 x2, .int .i64 x3, .int .i64 x4, .int .i64 x5, .slice A rows1.length c, .slice A' rows2.length c'], .bool true]) (by rw [results_cell_tmp rfl]; go_simp) rfl ?_
      have HNE : Hid (∀ j, Value.ownBlock (.slice A rows1.length c) = some j → ¬ (fun j => j = w.heap.size) j) := fun j hj e => by have := HBE.out j hj; dsimp only at e; omega
      have HNF : Hid (∀ j, Value.ownBlock (.slice A' rows2.length c') = some j → ¬ (fun j => j = w.heap.size) j) := fun j hj e => by have := HBF.out j hj; dsimp only at e; omega
      obtain rfl : rec = recOf [x0, x1, x2, x3, x4, x5] rows1 rows2 := HREC.out
      refine ⟨by (repeat' (first | (with_reducible exact HB6'.out) | (with_reducible refine Below.drew ?_) | (with_reducible refine below_drewN ?_ _) | (with_reducible refine Below.alloc ?_ ?_ _) | (with_reducible refine Below.setCell ?_ ?_ _) | go_size)), .inr ⟨_, A, A', c, c', HRR.out.trans HRS.out, by simp [recOf, Rec.v], ?_, ?_⟩⟩
      · unfold OwnE
        simp only [recOf, List.length_map]
        rw [HO1.out]
        refine owns_weaken (base := w2.heap.size) ?_ (by omega)
        repeat' (first | (with_reducible exact HOE6'.out) | (with_reducible refine owns_foot ?_ (Foot.set (fun j => j = w.heap.size) _ _ _ rfl) HNE.out))
      · unfold OwnF
        simp only [recOf, List.length_map]
        rw [HO2.out]
        refine owns_weaken (base := w4.heap.size) ?_ (by omega)
        repeat' (first | (with_reducible exact HOF6'.out) | (with_reducible refine owns_foot ?_ (Foot.set (fun j => j = w.heap.size) _ _ _ rfl) HNF.out))
    · have t : decide ((fin : Int) = (s.size : Int)) = false := decide_eq_false (by omega)
      have HRS : Hid (res = none) := by show _ = _; rw [HRES.out, if_pos]; rw [HLE.out]; exact .inr hfin
      go_wp2_with fail
      (try simp only [Exit.inBlock, Exit.then]); refine bodyPost_ret (v := .tuple #[.agg #[.int .i64 0, .int .i64 0, .int .i64 0, .int .i64 0, .int .i64 0, .int .i64 0, .slice none 0 0, .slice none 0 0], .bool false]) (by rw [results_cell_tmp rfl]; go_simp) rfl ?_
      exact ⟨by (repeat' (first | (with_reducible exact HB6'.out) | (with_reducible refine Below.drew ?_) | (with_reducible refine below_drewN ?_ _) | (with_reducible refine Below.alloc ?_ ?_ _) | (with_reducible refine Below.setCell ?_ ?_ _) | go_size)), .inl ⟨HRR.out.trans HRS.out, rfl⟩⟩
  · have HRS : Hid (res = none) := by show _ = _; rw [HRES.out, if_pos (.inl rfl)]
    go_wp2_with fail
    (try simp only [Exit.inBlock, Exit.then]); refine bodyPost_ret (v := .tuple #[.agg #[.int .i64 0, .int .i64 0, .int .i64 0, .int .i64 0, .int .i64 0, .int .i64 0, .slice none 0 0, .slice none 0 0], .bool false]) (by rw [results_cell_tmp rfl]; go_simp) rfl ?_
    exact ⟨by (repeat' (first | (with_reducible exact HB6'.out) | (with_reducible refine Below.drew ?_) | (with_reducible refine below_drewN ?_ _) | (with_reducible refine Below.alloc ?_ ?_ _) | (with_reducible refine Below.setCell ?_ ?_ _) | go_size)), .inl ⟨HRR.out.trans HRS.out, rfl⟩⟩
end Go.Proofs.YtkdnhfeamibmdaaDoor

