/-
  Decode of the document's records.
-/
import Derived.Test.YtkdnhfeamibmdaaDoorRrEnc
import Derived.Test.YtkdnhfeamibmdaaDoorRcRlog
namespace Go.Proofs.YtkdnhfeamibmdaaDoor
open Go.RowKit Go.Sort
theorem tl_inj {a b : ByteArray} (h : a.toList = b.toList) : a = b := by
  rw [Lib.toList_data, Lib.toList_data] at h
  exact ByteArray.ext (Array.toList_inj.1 h)
theorem keep_new {X Y : World} {o : Obj} {n : Nat} (hn : X.heap.size = n) (hb : Below (X.alloc o).heap.size (X.alloc o) Y) : Y.heap[n]? = some o := by
  subst hn; exact (hb.block _ (by simp)).trans (heap_alloc_new X o)
theorem set_far {X : World} {a : Addr} {u : Value} {k : Nat} {o : Obj} (h : X.heap[k]? = some o) (hne : k ≠ a.block) : (X.setCell a u).heap[k]? = some o := (Below.heap_setCell _ _ _ _ hne).trans h
theorem ris_len (l : List UInt8) : ∀ (k a : Nat) (f : Bool), (ris l k a f).1.length = k
  | 0, _, _ => rfl
  | k + 1, a, f => by simp only [ris, List.length_cons, ris_len l k]
theorem rrows_row (l : List UInt8) (per : Nat) : ∀ (c a : Nat) (f : Bool), ∀ r ∈ (rrows l per c a f).1, r.length = per
  | 0, _, _, r, hr => by cases hr
  | c + 1, a, f, r, hr => by
    unfold rrows at hr
    cases f
    · simp only [Bool.false_eq_true, if_false, List.mem_cons] at hr
      rcases hr with rfl | hr
      · exact ris_len _ _ _ _
      · exact rrows_row l per c _ _ r hr
    · simp at hr
theorem rlst_row (l : List UInt8) (per a : Nat) (f : Bool) : ∀ r ∈ (rlst l per a f).1, r.length = per := rrows_row l per _ _ _
theorem rrows_end {l : List UInt8} {per : Nat} : ∀ {c a : Nat} {f : Bool}, a ≤ l.length → (rrows l per c a f).2.1 ≤ l.length
  | 0, _, _, h => h
  | c + 1, a, f, h => by
    unfold rrows
    cases f
    · simp only [Bool.false_eq_true, if_false]
      exact rrows_end (ris_bd h).2.1
    · simpa using h
theorem rlst_end {s : ByteArray} {a a' per : Nat} {f f' : Bool} {R : List (List Int)} (h : rlst (bytesOf s) per a f = (R, a', f')) (ha : a ≤ s.size) : a' ≤ s.size := by
  have h1 := (ri_bd (l := bytesOf s) (f := f) (a := a) (by rw [bytes_len]; exact ha)).2.1
  have h2 := rrows_end (l := bytesOf s) (per := per) (c := (ri (bytesOf s) a f).1.toNat) (f := (ri (bytesOf s) a f).2.2) h1
  unfold rlst at h
  rw [h, bytes_len] at h2
  exact h2
theorem app_spot_big {w : World} {base n : Nat} {v : Value} {xs : List Value} (x0 x1 : Int) (ho : w.ownsRow base 32 2 v n xs) (hb : base ≤ w.heap.size) (hn : n ≤ 2000000) :
    ∃ A c w', (Builtin.append_ #[23, 23] 23 #[v, .slice (some ⟨w.heap.size, 0, none⟩) 1 1]).run Tryd.prog (w.alloc (.cells #[.int .i64 x0, .int .i64 x1] 32)) = .ok (.slice A (n + 1) c) w' ∧ w'.ownsRow base 32 2 (.slice A (n + 1) c) (n + 1) (xs ++ [.int .i64 x0, .int .i64 x1]) ∧ (w.alloc (.cells #[.int .i64 x0, .int .i64 x1] 32)).grownBy w' v.ownBlock := by
  obtain ⟨i0, hi0, hz0, hz1, hz2⟩ := info_parts Tryd.info_sp
  have hB : (w.alloc (.cells #[.int .i64 x0, .int .i64 x1] 32)).heap[w.heap.size]? = some (.cells #[.int .i64 x0, .int .i64 x1] 32 (0, 0)) := heap_alloc_new _ _
  obtain ⟨v', w', hr, ho', hg, _⟩ := run_append_own (P := Tryd.prog) (w.alloc (.cells #[.int .i64 x0, .int .i64 x1] 32)) base 23 23 32 i0 _ 2 16 Tryd.underlying23 hi0 hz0 hz1 hz2 rfl (by decide) v n xs (World.ownsRow.alloc ho _) ⟨w.heap.size, 0, none⟩ 1 1 [.int .i64 x0, .int .i64 x1] rfl
    (fun j u hu => by
      rw [Addr.add_lit, Nat.zero_add, Lib.cell_of_heap hB]
      simpa using hu)
    (by intro u hu; simp only [List.mem_cons, List.not_mem_nil, or_false] at hu; rcases hu with rfl | rfl <;> rfl) (by unfold maxLen; omega) (by omega) (by simp; omega)
  rcases ho'.2 with ⟨rfl, h0⟩ | ⟨g, cap, cur, rfl, _⟩
  · omega
  · exact ⟨_, cap, w', hr, ho', hg⟩
theorem own_slice {w : World} {base : Nat} {e : TypeId} {size n : Nat} {v : Value} {xs : List Value} (h : w.ownsRow base e size v n xs) : ∃ A c, v = .slice A n c := by
  rcases h.2 with ⟨rfl, rfl⟩ | ⟨g, cap, cur, rfl, _⟩
  · exact ⟨none, 0, rfl⟩
  · exact ⟨_, _, rfl⟩
theorem row_bel {w w' : World} {base : Nat} {e : TypeId} {size n : Nat} {v : Value} {xs : List Value} (h : w.ownsRow base e size v n xs) (hb : Below w.heap.size w w') : w'.ownsRow base e size v n xs :=
  owns_foot h (below_foot hb : Foot (fun _ => False) w w') fun _ _ e => e
theorem row_far {w : World} {base : Nat} {e : TypeId} {size n : Nat} {v : Value} {xs : List Value} {a : Addr} {u : Value} (h : w.ownsRow base e size v n xs) (hlt : a.block < base) : (w.setCell a u).ownsRow base e size v n xs :=
  owns_foot h (Foot.set (fun j => j = a.block) _ _ _ rfl) fun j hj e => by have := (World.ownsRow.lt h j hj).1; omega
theorem row_foot {m : Nat} {w w' : World} {base : Nat} {e : TypeId} {size n : Nat} {v : Value} {xs : List Value} (h : w.ownsRow base e size v n xs) (hf : Foot (fun j => j = m) w w') (hlt : m < base) : w'.ownsRow base e size v n xs :=
  owns_foot h hf fun j hj e => by have := (World.ownsRow.lt h j hj).1; omega
theorem row_set {w : World} {base g : Nat} {e : TypeId} {size n : Nat} {v : Value} {xs : List Value} {bs : Array Value} (h : w.ownsRow base e size v n xs) (hne : ∀ j, v.ownBlock = some j → j ≠ g) : (w.setRow g bs).ownsRow base e size v n xs :=
  owns_foot h (Foot.row (fun j => j = g) _ _ _ rfl) fun j hj e => hne j hj e
/-- What is read lies in memory: the record's lists in blocks of its own. -/
def RDecPost (l : List UInt8) (w : World) (e : Ending) (w' : World) : Prop :=
  Below w.heap.size w w' ∧ ((decR? l = none ∧ e = .returned (.tuple #[recV0, .int .i64 30])) ∨
    ∃ (r : Rec) (A A' : Option Addr) (c c' : Nat), decR? l = some r ∧ e = .returned (.tuple #[r.v (.slice A r.es.length c) (.slice A' r.fd.length c'), .int .i64 0]) ∧
      OwnE w' w.heap.size (.slice A r.es.length c) r.es ∧ OwnF w' w.heap.size (.slice A' r.fd.length c') r.fd)
set_option maxRecDepth 100000 in
set_option maxHeartbeats 16000000 in
theorem rrDec_any {s : ByteArray} (hs : s.size ≤ 1000000) (w : World) : Calls Tryd.prog 15 #[.string s] w (RDecPost (bytesOf s) w) := by
  obtain ⟨⟨y0, a1, f1⟩, h0⟩ : ∃ N, ri (bytesOf s) 0 false = N := ⟨_, rfl⟩
  obtain ⟨⟨y1, a2, f2⟩, h1⟩ : ∃ N, ri (bytesOf s) a1 f1 = N := ⟨_, rfl⟩
  obtain ⟨⟨y2, a3, f3⟩, h2⟩ : ∃ N, ri (bytesOf s) a2 f2 = N := ⟨_, rfl⟩
  obtain ⟨⟨y3, a4, f4⟩, h3⟩ : ∃ N, ri (bytesOf s) a3 f3 = N := ⟨_, rfl⟩
  obtain ⟨⟨y4, a5, f5⟩, h4⟩ : ∃ N, ri (bytesOf s) a4 f4 = N := ⟨_, rfl⟩
  obtain ⟨⟨y5, a6, f6⟩, h5⟩ : ∃ N, ri (bytesOf s) a5 f5 = N := ⟨_, rfl⟩
  have HN : Hid (ris (bytesOf s) 6 0 false = ([y0, y1, y2, y3, y4, y5], a6, f6)) := by show _ = _; simp [ris, h0, h1, h2, h3, h4, h5]
  have ha6 : a6 ≤ s.size := by have h := (ris_bd (l := bytesOf s) (k := 6) (a := 0) (f := false) (Nat.zero_le _)).2.1; rw [HN.out, bytes_len] at h; exact h
  have K0 := Lib.hid h0
  have K1 := Lib.hid h1
  have K2 := Lib.hid h2
  have K3 := Lib.hid h3
  have K4 := Lib.hid h4
  have K5 := Lib.hid h5
  clear h0 h1 h2 h3 h4 h5
  obtain ⟨⟨R6, a7, f7⟩, h7⟩ : ∃ N, rlst (bytesOf s) 6 a6 f6 = N := ⟨_, rfl⟩
  have hR6 := rlst_row (bytesOf s) 6 a6 f6
  rw [h7] at hR6
  obtain ⟨es, rfl⟩ : ∃ es : List En, R6 = es.map En.l := ⟨R6.map enOf, (map_enOf hR6).symm⟩
  clear hR6
  have K7 := Lib.hid h7
  have HRR : Hid (rrR (bytesOf s) = recOf [y0, y1, y2, y3, y4, y5] (es.map En.l) (rlst (bytesOf s) 2 a7 f7).1 ∧ rrBad (bytesOf s) = (rlst (bytesOf s) 2 a7 f7).2.2) := by refine ⟨?_, ?_⟩ <;> (first | unfold rrR | unfold rrBad) <;> (rw [HN.out]; dsimp only; rw [h7])
  clear h7 HN
  obtain ⟨w1, HX1⟩ : ∃ W : World, Hid (W = ((w.alloc (.cells #[.int .i64 0, .int .i64 0, .int .i64 0, .int .i64 0, .int .i64 0, .int .i64 0, .slice none 0 0, .slice none 0 0] 25)).alloc (.cells #[.string s, .int .i64 0, .bool false] 84)).alloc (.cells #[.int .i64 0, .int .i64 0, .int .i64 0, .int .i64 0, .int .i64 0, .int .i64 0, .slice none 0 0, .slice none 0 0] 25)) := ⟨_, Lib.hid rfl⟩
  have hB : Below w.heap.size w w1 := by rw [HX1.out]; exact (((Below.refl _ _).alloc (Nat.le_refl _) _).alloc (by simp) _).alloc (by simp <;> omega) _
  have hG : w1.heap[w.heap.size]? = some (.cells #[.int .i64 0, .int .i64 0, .int .i64 0, .int .i64 0, .int .i64 0, .int .i64 0, .slice none 0 0, .slice none 0 0] 25 (0, 0)) := by rw [HX1.out]; exact keep_new rfl (((Below.refl _ _).alloc (Nat.le_refl _) _).alloc (by simp) _)
  have hR : RrAt w1 (w.heap.size + 1) s 0 false := by rw [HX1.out]; exact keep_new (by simp) ((Below.refl _ _).alloc (Nat.le_refl _) _)
  have hX : w1.heap[w.heap.size + 1 + 1]? = some (.cells #[.int .i64 0, .int .i64 0, .int .i64 0, .int .i64 0, .int .i64 0, .int .i64 0, .slice none 0 0, .slice none 0 0] 25 (0, 0)) := by rw [HX1.out]; exact keep_new (by simp) (Below.refl _ _)
  have hz : w.heap.size + 1 + 1 < w1.heap.size := heap_lt hX
  go_enter Tryd.func15, Tryd.ntmps15
  go_wp2_with (rw [← HX1.out])
  clear HX1
  refine (rint_any hs hR).mono ?_
  rintro e w2 hp
  unfold IntPost at hp
  rw [K0.out] at hp
  obtain ⟨rfl, hr, hf⟩ := hp
  dsimp only at hr ⊢
  replace hR := hr
  replace hB := hB.trans (hf.below (B := w.heap.size) fun j hj => ⟨by omega, by omega⟩)
  replace hG := hf.kept hG (by omega)
  replace hX := hf.kept hX (by omega)
  replace hz : w.heap.size + 1 + 1 < w2.heap.size := heap_lt hX
  have q : w2.cell? ⟨w.heap.size + 1 + 1, 0, none⟩ = some (.int .i64 0) := by rw [Lib.cell_of_heap hX]; rfl
  have fz : w2.frozen? ⟨w.heap.size + 1 + 1, 0, none⟩ = false := Lib.frozen_of_heap hX _
  obtain ⟨w3, HW⟩ : ∃ W : World, Hid (W = w2.setCell ⟨w.heap.size + 1 + 1, 0, none⟩ (.int .i64 y0)) := ⟨_, Lib.hid rfl⟩
  replace hX : w3.heap[w.heap.size + 1 + 1]? = some (.cells #[.int .i64 y0, .int .i64 0, .int .i64 0, .int .i64 0, .int .i64 0, .int .i64 0, .slice none 0 0, .slice none 0 0] 25 (0, 0)) := by
    have h := heap_set (i := 0) (.int .i64 y0) hX
    simp only [Array.set!_eq_setIfInBounds, List.setIfInBounds_toArray, List.set_cons_zero] at h
    rw [HW.out]; exact h
  replace hR : RrAt w3 (w.heap.size + 1) s a1 f1 := by rw [HW.out]; exact set_far hR (by show _ ≠ w.heap.size + 1 + 1; omega)
  replace hG : w3.heap[w.heap.size]? = some (.cells #[.int .i64 0, .int .i64 0, .int .i64 0, .int .i64 0, .int .i64 0, .int .i64 0, .slice none 0 0, .slice none 0 0] 25 (0, 0)) := by rw [HW.out]; exact set_far hG (by show _ ≠ w.heap.size + 1 + 1; omega)
  replace hB : Below w.heap.size w w3 := by rw [HW.out]; exact hB.setCell (by show _ ≤ w.heap.size + 1 + 1; omega) _
  replace hz : w.heap.size + 1 + 1 < w3.heap.size := heap_lt hX
  clear hr hf K0
  go_wp2_with (rw [← HW.out])
  clear q fz HW
  refine (rint_any hs hR).mono ?_
  rintro e w4 hp
  unfold IntPost at hp
  rw [K1.out] at hp
  obtain ⟨rfl, hr, hf⟩ := hp
  dsimp only at hr ⊢
  replace hR := hr
  replace hB := hB.trans (hf.below (B := w.heap.size) fun j hj => ⟨by omega, by omega⟩)
  replace hG := hf.kept hG (by omega)
  replace hX := hf.kept hX (by omega)
  replace hz : w.heap.size + 1 + 1 < w4.heap.size := heap_lt hX
  have q : w4.cell? ⟨w.heap.size + 1 + 1, 1, none⟩ = some (.int .i64 0) := by rw [Lib.cell_of_heap hX]; rfl
  have fz : w4.frozen? ⟨w.heap.size + 1 + 1, 1, none⟩ = false := Lib.frozen_of_heap hX _
  obtain ⟨w5, HW⟩ : ∃ W : World, Hid (W = w4.setCell ⟨w.heap.size + 1 + 1, 1, none⟩ (.int .i64 y1)) := ⟨_, Lib.hid rfl⟩
  replace hX : w5.heap[w.heap.size + 1 + 1]? = some (.cells #[.int .i64 y0, .int .i64 y1, .int .i64 0, .int .i64 0, .int .i64 0, .int .i64 0, .slice none 0 0, .slice none 0 0] 25 (0, 0)) := by
    have h := heap_set (i := 1) (.int .i64 y1) hX
    simp only [Array.set!_eq_setIfInBounds, List.setIfInBounds_toArray, List.set_cons_zero, List.set_cons_succ] at h
    rw [HW.out]; exact h
  replace hR : RrAt w5 (w.heap.size + 1) s a2 f2 := by rw [HW.out]; exact set_far hR (by show _ ≠ w.heap.size + 1 + 1; omega)
  replace hG : w5.heap[w.heap.size]? = some (.cells #[.int .i64 0, .int .i64 0, .int .i64 0, .int .i64 0, .int .i64 0, .int .i64 0, .slice none 0 0, .slice none 0 0] 25 (0, 0)) := by rw [HW.out]; exact set_far hG (by show _ ≠ w.heap.size + 1 + 1; omega)
  replace hB : Below w.heap.size w w5 := by rw [HW.out]; exact hB.setCell (by show _ ≤ w.heap.size + 1 + 1; omega) _
  replace hz : w.heap.size + 1 + 1 < w5.heap.size := heap_lt hX
  clear hr hf K1
  go_wp2_with (rw [← HW.out])
  clear q fz HW
  refine (rint_any hs hR).mono ?_
  rintro e w6 hp
  unfold IntPost at hp
  rw [K2.out] at hp
  obtain ⟨rfl, hr, hf⟩ := hp
  dsimp only at hr ⊢
  replace hR := hr
  replace hB := hB.trans (hf.below (B := w.heap.size) fun j hj => ⟨by omega, by omega⟩)
  replace hG := hf.kept hG (by omega)
  replace hX := hf.kept hX (by omega)
  replace hz : w.heap.size + 1 + 1 < w6.heap.size := heap_lt hX
  have q : w6.cell? ⟨w.heap.size + 1 + 1, 2, none⟩ = some (.int .i64 0) := by rw [Lib.cell_of_heap hX]; rfl
  have fz : w6.frozen? ⟨w.heap.size + 1 + 1, 2, none⟩ = false := Lib.frozen_of_heap hX _
  obtain ⟨w7, HW⟩ : ∃ W : World, Hid (W = w6.setCell ⟨w.heap.size + 1 + 1, 2, none⟩ (.int .i64 y2)) := ⟨_, Lib.hid rfl⟩
  replace hX : w7.heap[w.heap.size + 1 + 1]? = some (.cells #[.int .i64 y0, .int .i64 y1, .int .i64 y2, .int .i64 0, .int .i64 0, .int .i64 0, .slice none 0 0, .slice none 0 0] 25 (0, 0)) := by
    have h := heap_set (i := 2) (.int .i64 y2) hX
    simp only [Array.set!_eq_setIfInBounds, List.setIfInBounds_toArray, List.set_cons_zero, List.set_cons_succ] at h
    rw [HW.out]; exact h
  replace hR : RrAt w7 (w.heap.size + 1) s a3 f3 := by rw [HW.out]; exact set_far hR (by show _ ≠ w.heap.size + 1 + 1; omega)
  replace hG : w7.heap[w.heap.size]? = some (.cells #[.int .i64 0, .int .i64 0, .int .i64 0, .int .i64 0, .int .i64 0, .int .i64 0, .slice none 0 0, .slice none 0 0] 25 (0, 0)) := by rw [HW.out]; exact set_far hG (by show _ ≠ w.heap.size + 1 + 1; omega)
  replace hB : Below w.heap.size w w7 := by rw [HW.out]; exact hB.setCell (by show _ ≤ w.heap.size + 1 + 1; omega) _
  replace hz : w.heap.size + 1 + 1 < w7.heap.size := heap_lt hX
  clear hr hf K2
  go_wp2_with (rw [← HW.out])
  clear q fz HW
  refine (rint_any hs hR).mono ?_
  rintro e w8 hp
  unfold IntPost at hp
  rw [K3.out] at hp
  obtain ⟨rfl, hr, hf⟩ := hp
  dsimp only at hr ⊢
  replace hR := hr
  replace hB := hB.trans (hf.below (B := w.heap.size) fun j hj => ⟨by omega, by omega⟩)
  replace hG := hf.kept hG (by omega)
  replace hX := hf.kept hX (by omega)
  replace hz : w.heap.size + 1 + 1 < w8.heap.size := heap_lt hX
  have q : w8.cell? ⟨w.heap.size + 1 + 1, 3, none⟩ = some (.int .i64 0) := by rw [Lib.cell_of_heap hX]; rfl
  have fz : w8.frozen? ⟨w.heap.size + 1 + 1, 3, none⟩ = false := Lib.frozen_of_heap hX _
  obtain ⟨w9, HW⟩ : ∃ W : World, Hid (W = w8.setCell ⟨w.heap.size + 1 + 1, 3, none⟩ (.int .i64 y3)) := ⟨_, Lib.hid rfl⟩
  replace hX : w9.heap[w.heap.size + 1 + 1]? = some (.cells #[.int .i64 y0, .int .i64 y1, .int .i64 y2, .int .i64 y3, .int .i64 0, .int .i64 0, .slice none 0 0, .slice none 0 0] 25 (0, 0)) := by
    have h := heap_set (i := 3) (.int .i64 y3) hX
    simp only [Array.set!_eq_setIfInBounds, List.setIfInBounds_toArray, List.set_cons_zero, List.set_cons_succ] at h
    rw [HW.out]; exact h
  replace hR : RrAt w9 (w.heap.size + 1) s a4 f4 := by rw [HW.out]; exact set_far hR (by show _ ≠ w.heap.size + 1 + 1; omega)
  replace hG : w9.heap[w.heap.size]? = some (.cells #[.int .i64 0, .int .i64 0, .int .i64 0, .int .i64 0, .int .i64 0, .int .i64 0, .slice none 0 0, .slice none 0 0] 25 (0, 0)) := by rw [HW.out]; exact set_far hG (by show _ ≠ w.heap.size + 1 + 1; omega)
  replace hB : Below w.heap.size w w9 := by rw [HW.out]; exact hB.setCell (by show _ ≤ w.heap.size + 1 + 1; omega) _
  replace hz : w.heap.size + 1 + 1 < w9.heap.size := heap_lt hX
  clear hr hf K3
  go_wp2_with (rw [← HW.out])
  clear q fz HW
  refine (rint_any hs hR).mono ?_
  rintro e w10 hp
  unfold IntPost at hp
  rw [K4.out] at hp
  obtain ⟨rfl, hr, hf⟩ := hp
  dsimp only at hr ⊢
  replace hR := hr
  replace hB := hB.trans (hf.below (B := w.heap.size) fun j hj => ⟨by omega, by omega⟩)
  replace hG := hf.kept hG (by omega)
  replace hX := hf.kept hX (by omega)
  replace hz : w.heap.size + 1 + 1 < w10.heap.size := heap_lt hX
  have q : w10.cell? ⟨w.heap.size + 1 + 1, 4, none⟩ = some (.int .i64 0) := by rw [Lib.cell_of_heap hX]; rfl
  have fz : w10.frozen? ⟨w.heap.size + 1 + 1, 4, none⟩ = false := Lib.frozen_of_heap hX _
  obtain ⟨w11, HW⟩ : ∃ W : World, Hid (W = w10.setCell ⟨w.heap.size + 1 + 1, 4, none⟩ (.int .i64 y4)) := ⟨_, Lib.hid rfl⟩
  replace hX : w11.heap[w.heap.size + 1 + 1]? = some (.cells #[.int .i64 y0, .int .i64 y1, .int .i64 y2, .int .i64 y3, .int .i64 y4, .int .i64 0, .slice none 0 0, .slice none 0 0] 25 (0, 0)) := by
    have h := heap_set (i := 4) (.int .i64 y4) hX
    simp only [Array.set!_eq_setIfInBounds, List.setIfInBounds_toArray, List.set_cons_zero, List.set_cons_succ] at h
    rw [HW.out]; exact h
  replace hR : RrAt w11 (w.heap.size + 1) s a5 f5 := by rw [HW.out]; exact set_far hR (by show _ ≠ w.heap.size + 1 + 1; omega)
  replace hG : w11.heap[w.heap.size]? = some (.cells #[.int .i64 0, .int .i64 0, .int .i64 0, .int .i64 0, .int .i64 0, .int .i64 0, .slice none 0 0, .slice none 0 0] 25 (0, 0)) := by rw [HW.out]; exact set_far hG (by show _ ≠ w.heap.size + 1 + 1; omega)
  replace hB : Below w.heap.size w w11 := by rw [HW.out]; exact hB.setCell (by show _ ≤ w.heap.size + 1 + 1; omega) _
  replace hz : w.heap.size + 1 + 1 < w11.heap.size := heap_lt hX
  clear hr hf K4
  go_wp2_with (rw [← HW.out])
  clear q fz HW
  refine (rint_any hs hR).mono ?_
  rintro e w12 hp
  unfold IntPost at hp
  rw [K5.out] at hp
  obtain ⟨rfl, hr, hf⟩ := hp
  dsimp only at hr ⊢
  replace hR := hr
  replace hB := hB.trans (hf.below (B := w.heap.size) fun j hj => ⟨by omega, by omega⟩)
  replace hG := hf.kept hG (by omega)
  replace hX := hf.kept hX (by omega)
  replace hz : w.heap.size + 1 + 1 < w12.heap.size := heap_lt hX
  have q : w12.cell? ⟨w.heap.size + 1 + 1, 5, none⟩ = some (.int .i64 0) := by rw [Lib.cell_of_heap hX]; rfl
  have fz : w12.frozen? ⟨w.heap.size + 1 + 1, 5, none⟩ = false := Lib.frozen_of_heap hX _
  obtain ⟨w13, HW⟩ : ∃ W : World, Hid (W = w12.setCell ⟨w.heap.size + 1 + 1, 5, none⟩ (.int .i64 y5)) := ⟨_, Lib.hid rfl⟩
  replace hX : w13.heap[w.heap.size + 1 + 1]? = some (.cells #[.int .i64 y0, .int .i64 y1, .int .i64 y2, .int .i64 y3, .int .i64 y4, .int .i64 y5, .slice none 0 0, .slice none 0 0] 25 (0, 0)) := by
    have h := heap_set (i := 5) (.int .i64 y5) hX
    simp only [Array.set!_eq_setIfInBounds, List.setIfInBounds_toArray, List.set_cons_zero, List.set_cons_succ] at h
    rw [HW.out]; exact h
  replace hR : RrAt w13 (w.heap.size + 1) s a6 f6 := by rw [HW.out]; exact set_far hR (by show _ ≠ w.heap.size + 1 + 1; omega)
  replace hG : w13.heap[w.heap.size]? = some (.cells #[.int .i64 0, .int .i64 0, .int .i64 0, .int .i64 0, .int .i64 0, .int .i64 0, .slice none 0 0, .slice none 0 0] 25 (0, 0)) := by rw [HW.out]; exact set_far hG (by show _ ≠ w.heap.size + 1 + 1; omega)
  replace hB : Below w.heap.size w w13 := by rw [HW.out]; exact hB.setCell (by show _ ≤ w.heap.size + 1 + 1; omega) _
  replace hz : w.heap.size + 1 + 1 < w13.heap.size := heap_lt hX
  clear hr hf K5
  go_wp2_with (rw [← HW.out])
  clear q fz HW
  refine (rlog_any hs hR ha6).mono ?_
  rintro e w14 hp
  unfold LogPost at hp
  rw [K7.out] at hp
  obtain ⟨v, rfl, hE, hr, hf⟩ := hp
  dsimp only at hr hE ⊢
  simp only [List.length_map] at hE
  obtain ⟨A, c, rfl⟩ := own_slice hE
  replace hE := owns_weaken hE (show w.heap.size + 1 + 1 + 1 ≤ _ by omega)
  replace hR := hr
  replace hB := hB.trans (hf.below (B := w.heap.size) fun j hj => ⟨by omega, by omega⟩)
  replace hG := hf.kept hG (by omega)
  replace hX := hf.kept hX (by omega)
  replace hz : w.heap.size + 1 + 1 < w14.heap.size := heap_lt hX
  have q : w14.cell? ⟨w.heap.size + 1 + 1, 6, none⟩ = some (.slice none 0 0) := by rw [Lib.cell_of_heap hX]; rfl
  have fz : w14.frozen? ⟨w.heap.size + 1 + 1, 6, none⟩ = false := Lib.frozen_of_heap hX _
  obtain ⟨w15, HW⟩ : ∃ W : World, Hid (W = w14.setCell ⟨w.heap.size + 1 + 1, 6, none⟩ (.slice A es.length c)) := ⟨_, Lib.hid rfl⟩
  replace hX : w15.heap[w.heap.size + 1 + 1]? = some (.cells #[.int .i64 y0, .int .i64 y1, .int .i64 y2, .int .i64 y3, .int .i64 y4, .int .i64 y5, .slice A es.length c, .slice none 0 0] 25 (0, 0)) := by
    have h := heap_set (i := 6) (.slice A es.length c) hX
    simp only [Array.set!_eq_setIfInBounds, List.setIfInBounds_toArray, List.set_cons_zero, List.set_cons_succ] at h
    rw [HW.out]; exact h
  replace hR : RrAt w15 (w.heap.size + 1) s a7 f7 := by rw [HW.out]; exact set_far hR (by show _ ≠ w.heap.size + 1 + 1; omega)
  replace hG : w15.heap[w.heap.size]? = some (.cells #[.int .i64 0, .int .i64 0, .int .i64 0, .int .i64 0, .int .i64 0, .int .i64 0, .slice none 0 0, .slice none 0 0] 25 (0, 0)) := by rw [HW.out]; exact set_far hG (by show _ ≠ w.heap.size + 1 + 1; omega)
  replace hB : Below w.heap.size w w15 := by rw [HW.out]; exact hB.setCell (by show _ ≤ w.heap.size + 1 + 1; omega) _
  replace hE : w15.ownsRow (w.heap.size + 1 + 1 + 1) 30 6 (.slice A es.length c) es.length ((es.map En.l).flatten.map (Value.int .i64)) := by rw [HW.out]; exact row_far hE (by show w.heap.size + 1 + 1 < _; omega)
  replace hz : w.heap.size + 1 + 1 < w15.heap.size := heap_lt hX
  have ha7 : a7 ≤ s.size := rlst_end K7.out ha6
  clear hr hf K7
  go_wp2_with (rw [← HW.out])
  clear q fz HW
  obtain ⟨⟨n, b0, g0⟩, h8⟩ : ∃ N, ri (bytesOf s) a7 f7 = N := ⟨_, rfl⟩
  have HL0 : Hid (rlst (bytesOf s) 2 a7 f7 = rrows (bytesOf s) 2 n.toNat b0 g0) := by show _ = _; unfold rlst; rw [h8]
  have hbd8 := ri_bd (l := bytesOf s) (f := f7) (a := a7) (by rw [bytes_len]; exact ha7)
  rw [h8, bytes_len] at hbd8
  have hb0s : b0 ≤ s.size := hbd8.2.1
  refine (rint_any hs hR).mono ?_
  rintro e w16 hp
  unfold IntPost at hp
  rw [h8] at hp
  obtain ⟨rfl, hr, hf⟩ := hp
  dsimp only at hr ⊢
  replace hR := hr
  replace hB := hB.trans (hf.below (B := w.heap.size) fun j hj => ⟨by omega, by omega⟩)
  replace hG := hf.kept hG (by omega)
  replace hX := hf.kept hX (by omega)
  replace hE := row_foot hE hf (by omega)
  replace hz : w.heap.size + 1 + 1 < w16.heap.size := heap_lt hX
  replace h8 := Lib.hid h8
  clear hr hf hbd8
  obtain ⟨Z0, HZ0⟩ : ∃ Z0 : Nat, Hid (Z0 = w16.heap.size) := ⟨_, Lib.hid rfl⟩
  have hzZ : w.heap.size + 1 + 1 < Z0 := by rw [HZ0.out]; exact hz
  have HEL : Hid (∀ j, (Value.slice A es.length c).ownBlock = some j → j < Z0) := Lib.hid fun j hj => by rw [HZ0.out]; exact (World.ownsRow.lt hE j hj).2
  have hz16 : Z0 ≤ w16.heap.size := by rw [HZ0.out]; exact Nat.le_refl _
  have HF0 : Hid (w16.ownsRow Z0 32 2 (.slice none 0 0) 0 []) := Lib.hid (World.ownsRow_nil _ _ _ _)
  replace hR := Lib.hid hR
  replace hB := Lib.hid hB
  replace hG := Lib.hid hG
  replace hX := Lib.hid hX
  replace hE := Lib.hid hE
  clear hz HZ0
  go_wp2_with fail
  go_loopw [7] (fun iv wr => ∃ (rows : List (List Int)) (b : Nat) (g : Bool) (D : Option Addr) (d : Nat), iv = .int .i64 (rows.length : Nat) ∧ rows.length ≤ n.toNat ∧ b ≤ s.size ∧ rows.length ≤ b + 1 ∧ (g = false → rows.length ≤ b) ∧ Hid (RrCome (bytesOf s) 2 n.toNat b0 g0 rows b g) ∧ Hid (RrAt wr (w.heap.size + 1) s b g) ∧ Hid (wr.heap[w.heap.size + 1 + 1]? = some (.cells #[.int .i64 y0, .int .i64 y1, .int .i64 y2, .int .i64 y3, .int .i64 y4, .int .i64 y5, .slice A es.length c, .slice D rows.length d] 25 (0, 0))) ∧ Hid (wr.heap[w.heap.size]? = some (.cells #[.int .i64 0, .int .i64 0, .int .i64 0, .int .i64 0, .int .i64 0, .int .i64 0, .slice none 0 0, .slice none 0 0] 25 (0, 0))) ∧ Hid (wr.ownsRow (w.heap.size + 1 + 1 + 1) 30 6 (.slice A es.length c) es.length ((es.map En.l).flatten.map (Value.int .i64))) ∧ Hid (wr.ownsRow Z0 32 2 (.slice D rows.length d) rows.length (rows.flatten.map (Value.int .i64))) ∧ Hid (Below w.heap.size w wr) ∧ Z0 ≤ wr.heap.size) (fun iv _ => n.toNat - (intOf iv).toNat)
  case atStart => exact ⟨[], b0, g0, none, 0, rfl, Nat.zero_le _, hb0s, Nat.zero_le _, fun _ => Nat.zero_le _, Lib.hid (RrCome.start _ _ _ _ _), hR, hX, hG, hE, HF0, hB, hz16⟩
  case round =>
    clear hR hX hG hE HF0 hB hz16
    obtain ⟨rows, b, g, D, d, rfl, hk, hb, hk1, hk2, hcome, hR, hX, hG, hE, hF, hB, hzr⟩ := hrel
    have HRC := Lib.hid (RrAt.cells hR.out)
    obtain ⟨-, -, c2, -, -⟩ := HRC.out
    by_cases hgo : (rows.length : Int) < n ∧ g = false
    · obtain ⟨hlt, rfl⟩ := hgo
      have t1 : decide ((rows.length : Int) < n) = true := decide_eq_true hlt
      have hlt' : rows.length < n.toNat := by omega
      have hkb := hk2 rfl
      obtain ⟨⟨row, b', g'⟩, hris⟩ : ∃ N, ris (bytesOf s) 2 b false = N := ⟨_, rfl⟩
      have hbd := ris_bd (l := bytesOf s) (k := 2) (f := false) (a := b) (by rw [bytes_len]; exact hb)
      rw [hris, bytes_len] at hbd
      dsimp only at hbd
      have HC := Lib.hid (hcome.out.next hlt' hris)
      obtain ⟨⟨u0, b1, g1⟩, hr1⟩ : ∃ N, ri (bytesOf s) b false = N := ⟨_, rfl⟩
      obtain ⟨⟨u1, b2, g2⟩, hr2⟩ : ∃ N, ri (bytesOf s) b1 g1 = N := ⟨_, rfl⟩
      have hs2 : row = [u0, u1] ∧ b' = b2 ∧ g' = g2 := by
        have h1 : ris (bytesOf s) 2 b false = ([u0, u1], b2, g2) := by simp [ris, hr1, hr2]
        rw [hris] at h1
        injection h1 with h2 h3
        injection h3 with h4 h5
        exact ⟨h2, h4, h5⟩
      obtain ⟨rfl, rfl, rfl⟩ := hs2
      have K1 := Lib.hid hr1
      have K2 := Lib.hid hr2
      have HBD := Lib.hid hbd
      have HLT := Lib.hid hlt'
      clear hris hr1 hr2 hbd hcome hk2 hlt'
      go_wp2_with fail
      refine (rint_any hs hR.out).mono ?_
      rintro e w2 hp
      unfold IntPost at hp
      rw [K1.out] at hp
      obtain ⟨rfl, hr, hf⟩ := hp
      dsimp only at hr ⊢
      have hR2 := Lib.hid hr
      have hB2 : Hid (Below w.heap.size w w2) := Lib.hid (hB.out.trans (hf.below (B := w.heap.size) fun j hj => ⟨by omega, by omega⟩))
      have hG2 : Hid (w2.heap[w.heap.size]? = some (.cells #[.int .i64 0, .int .i64 0, .int .i64 0, .int .i64 0, .int .i64 0, .int .i64 0, .slice none 0 0, .slice none 0 0] 25 (0, 0))) := Lib.hid (hf.kept hG.out (by omega))
      have hX2 : Hid (w2.heap[w.heap.size + 1 + 1]? = some (.cells #[.int .i64 y0, .int .i64 y1, .int .i64 y2, .int .i64 y3, .int .i64 y4, .int .i64 y5, .slice A es.length c, .slice D rows.length d] 25 (0, 0))) := Lib.hid (hf.kept hX.out (by omega))
      have hE2 := Lib.hid (row_foot hE.out hf (by omega))
      have hF2 := Lib.hid (row_foot hF.out hf (by omega))
      have hz2 : Z0 ≤ w2.heap.size := Nat.le_trans hzr hf.size
      clear hr hf c2 HRC hR hB hG hX hE hF
      go_wp2_with fail
      refine (rint_any hs hR2.out).mono ?_
      rintro e w3 hp
      unfold IntPost at hp
      rw [K2.out] at hp
      obtain ⟨rfl, hr, hf⟩ := hp
      dsimp only at hr ⊢
      have hR3 := Lib.hid hr
      have hB3 : Hid (Below w.heap.size w w3) := Lib.hid (hB2.out.trans (hf.below (B := w.heap.size) fun j hj => ⟨by omega, by omega⟩))
      have hG3 : Hid (w3.heap[w.heap.size]? = some (.cells #[.int .i64 0, .int .i64 0, .int .i64 0, .int .i64 0, .int .i64 0, .int .i64 0, .slice none 0 0, .slice none 0 0] 25 (0, 0))) := Lib.hid (hf.kept hG2.out (by omega))
      have hX3 : Hid (w3.heap[w.heap.size + 1 + 1]? = some (.cells #[.int .i64 y0, .int .i64 y1, .int .i64 y2, .int .i64 y3, .int .i64 y4, .int .i64 y5, .slice A es.length c, .slice D rows.length d] 25 (0, 0))) := Lib.hid (hf.kept hX2.out (by omega))
      have hE3 := Lib.hid (row_foot hE2.out hf (by omega))
      have hF3 := row_foot hF2.out hf (by omega)
      have hz3 : Z0 ≤ w3.heap.size := Nat.le_trans hz2 hf.size
      clear hr hf hR2 hB2 hG2 hX2 hE2 hF2 K1 K2
      obtain ⟨D', d', w4, hr4, ho4, hg4⟩ := app_spot_big u0 u1 hF3 hz3 (by omega)
      have HAP := Lib.hid hr4
      have hb4 : Below Z0 w3 w4 := ((Below.refl _ _).alloc hz3 _).grown hg4 (by simp; omega) (fun j hj => (World.ownsRow.lt hF3 j hj).1)
      have ho4 := Lib.hid ho4
      have q : w3.cell? ⟨w.heap.size + 1 + 1, 7, none⟩ = some (.slice D rows.length d) := by rw [Lib.cell_of_heap hX3.out]; rfl
      have hX4 : w4.heap[w.heap.size + 1 + 1]? = some (.cells #[.int .i64 y0, .int .i64 y1, .int .i64 y2, .int .i64 y3, .int .i64 y4, .int .i64 y5, .slice A es.length c, .slice D rows.length d] 25 (0, 0)) := (hb4.block _ (by omega)).trans hX3.out
      have q4 : w4.cell? ⟨w.heap.size + 1 + 1, 7, none⟩ = some (.slice D rows.length d) := by rw [Lib.cell_of_heap hX4]; rfl
      have fz : w4.frozen? ⟨w.heap.size + 1 + 1, 7, none⟩ = false := Lib.frozen_of_heap hX4 _
      obtain ⟨w5, HW⟩ : ∃ W : World, Hid (W = w4.setCell ⟨w.heap.size + 1 + 1, 7, none⟩ (.slice D' (rows.length + 1) d')) := ⟨_, Lib.hid rfl⟩
      have hX5 : Hid (w5.heap[w.heap.size + 1 + 1]? = some (.cells #[.int .i64 y0, .int .i64 y1, .int .i64 y2, .int .i64 y3, .int .i64 y4, .int .i64 y5, .slice A es.length c, .slice D' (rows.length + 1) d'] 25 (0, 0))) := Lib.hid (by
        have h := heap_set (i := 7) (.slice D' (rows.length + 1) d') hX4
        simp only [Array.set!_eq_setIfInBounds, List.setIfInBounds_toArray, List.set_cons_zero, List.set_cons_succ] at h
        rw [HW.out]; exact h)
      have hR5 : Hid (RrAt w5 (w.heap.size + 1) s b' g') := Lib.hid (by rw [HW.out]; exact set_far ((hb4.block _ (by omega)).trans hR3.out) (by show _ ≠ w.heap.size + 1 + 1; omega))
      have hG5 : Hid (w5.heap[w.heap.size]? = some (.cells #[.int .i64 0, .int .i64 0, .int .i64 0, .int .i64 0, .int .i64 0, .int .i64 0, .slice none 0 0, .slice none 0 0] 25 (0, 0))) := Lib.hid (by rw [HW.out]; exact set_far ((hb4.block _ (by omega)).trans hG3.out) (by show _ ≠ w.heap.size + 1 + 1; omega))
      have hB5 : Hid (Below w.heap.size w w5) := Lib.hid (by rw [HW.out]; exact (hB3.out.trans (hb4.mono (by omega))).setCell (by show _ ≤ w.heap.size + 1 + 1; omega) _)
      have hE4 : w4.ownsRow (w.heap.size + 1 + 1 + 1) 30 6 (.slice A es.length c) es.length ((es.map En.l).flatten.map (Value.int .i64)) :=
        owns_foot hE3.out (⟨hb4.os, hb4.tape, hb4.output, hb4.size, fun k _ hk => hb4.block k (Nat.lt_of_not_le hk)⟩ : Foot (fun j => Z0 ≤ j) w3 w4) fun j hj e => by have := HEL.out j hj; omega
      have hE5 : Hid (w5.ownsRow (w.heap.size + 1 + 1 + 1) 30 6 (.slice A es.length c) es.length ((es.map En.l).flatten.map (Value.int .i64))) := Lib.hid (by rw [HW.out]; exact row_far hE4 (by show w.heap.size + 1 + 1 < _; omega))
      have hF5 : Hid (w5.ownsRow Z0 32 2 (.slice D' (rows.length + 1) d') (rows.length + 1) (rows.flatten.map (Value.int .i64) ++ [.int .i64 u0, .int .i64 u1])) := Lib.hid (by rw [HW.out]; exact row_far ho4.out (by show w.heap.size + 1 + 1 < _; omega))
      have hz5 : Z0 ≤ w5.heap.size := by have := hb4.size; rw [HW.out]; show Z0 ≤ (w4.setCell _ _).heap.size; simp [World.setCell]; omega
      clear hr4 ho4 hg4 hb4 hX4 hE4 hF3 hR3 hB3 hG3 hX3 hE3
      go_wp2_with (first | (at_builtin; refine wpList_append_run _ rfl _ _ _ _ rfl _ _ rfl rfl HAP.out ?_) | rw [← HW.out])
      go_roundw
      case rel =>
        have hB6 := HBD.out
        have hlt2 := HLT.out
        refine ⟨rows ++ [[u0, u1]], b', g', D', d', by simp, by simp; omega, by omega, by simp; omega, fun hg => by have := hB6.2.2 hg; simp; omega, HC, hR5, ?_, hG5, hE5, ?_, hB5, hz5⟩
        · simpa using hX5
        · have h := hF5.out
          refine Lib.hid ?_
          simpa using h
      case measure => have := HLT.out; simp [intOf]; omega
    · have hfin : rlst (bytesOf s) 2 a7 f7 = (rows, b, g) := by
        cases g with
        | true => exact HL0.out.trans hcome.out.bad
        | false => exact HL0.out.trans (hcome.out.done (by simp at hgo; omega))
      have hrow := rlst_row (bytesOf s) 2 a7 f7
      obtain ⟨hRR1, hRR2⟩ := HRR.out
      rw [hfin] at hrow hRR1 hRR2
      dsimp only at hrow hRR1 hRR2
      obtain ⟨fd, rfl⟩ : ∃ fd : List Sp, rows = fd.map Sp.l := ⟨rows.map spOf, (map_spOf hrow).symm⟩
      obtain ⟨r, hr⟩ : ∃ r : Rec, r = ⟨y0, y1, y2, y3, y4, y5, es, fd⟩ := ⟨_, rfl⟩
      have hrr : rrR (bytesOf s) = r := by rw [hRR1, hr]; exact recOf_l ⟨y0, y1, y2, y3, y4, y5, es, fd⟩
      have hdec := rr_dec (l := bytesOf s)
      rw [hRR2, hrr] at hdec
      simp only [List.length_map] at hk hk1 hX hF hgo
      have hes : EsB wr.heap.size wr (.slice A es.length c) r.es := by rw [hr]; exact own_rd hE.out
      have hfd : FdB wr.heap.size wr (.slice D fd.length d) r.fd := by rw [hr]; exact own_rd hF.out
      have HEN := Lib.hid (rrEnc_any r hes hfd)
      have HER : Hid (r.encR = if r.may then .tuple #[.string ⟨r.enc.toArray⟩, .int .i64 0] else .tuple #[.string ⟨#[]⟩, .int .i64 2]) := rfl
      have HDEC := Lib.hid hdec
      have HOE : Hid (OwnE wr w.heap.size (.slice A es.length c) es) := Lib.hid (owns_weaken hE.out (by omega))
      have HOF : Hid (OwnF wr w.heap.size (.slice D fd.length d) fd) := Lib.hid (owns_weaken hF.out (by omega))
      have HNE : Hid (∀ j, (Value.slice A es.length c).ownBlock = some j → j ≠ w.heap.size) := Lib.hid fun j hj => by have := (World.ownsRow.lt hE.out j hj).1; omega
      have HNF : Hid (∀ j, (Value.slice D fd.length d).ownBlock = some j → j ≠ w.heap.size) := Lib.hid fun j hj => by have := (World.ownsRow.lt hF.out j hj).1; omega
      have HR0 : Hid (r = ⟨y0, y1, y2, y3, y4, y5, es, fd⟩) := hr
      have hrv : r.v (.slice A es.length c) (.slice D fd.length d) = .agg #[.int .i64 y0, .int .i64 y1, .int .i64 y2, .int .i64 y3, .int .i64 y4, .int .i64 y5, .slice A es.length c, .slice D fd.length d] := by rw [hr]; rfl
      rw [hrv] at HEN
      have HZX : Hid (w.heap.size + 1 + 1 < wr.heap.size) := heap_lt hX.out
      clear hfin hrow hRR1 hRR2 hrr hdec hes hfd hE hF hr hrv hcome HRR HL0 hk2 HEL
      have q0 : wr.cell? ⟨w.heap.size + 1 + 1, 0, none⟩ = some (.int .i64 y0) := by rw [Lib.cell_of_heap hX.out]; rfl
      have q1 : wr.cell? ⟨w.heap.size + 1 + 1, 1, none⟩ = some (.int .i64 y1) := by rw [Lib.cell_of_heap hX.out]; rfl
      have q2 : wr.cell? ⟨w.heap.size + 1 + 1, 2, none⟩ = some (.int .i64 y2) := by rw [Lib.cell_of_heap hX.out]; rfl
      have q3 : wr.cell? ⟨w.heap.size + 1 + 1, 3, none⟩ = some (.int .i64 y3) := by rw [Lib.cell_of_heap hX.out]; rfl
      have q4 : wr.cell? ⟨w.heap.size + 1 + 1, 4, none⟩ = some (.int .i64 y4) := by rw [Lib.cell_of_heap hX.out]; rfl
      have q5 : wr.cell? ⟨w.heap.size + 1 + 1, 5, none⟩ = some (.int .i64 y5) := by rw [Lib.cell_of_heap hX.out]; rfl
      have q6 : wr.cell? ⟨w.heap.size + 1 + 1, 6, none⟩ = some (.slice A es.length c) := by rw [Lib.cell_of_heap hX.out]; rfl
      have q7 : wr.cell? ⟨w.heap.size + 1 + 1, 7, none⟩ = some (.slice D fd.length d) := by rw [Lib.cell_of_heap hX.out]; rfl
      cases hm : r.may with
      | false =>
        rw [hm] at HDEC HER
        have HNONE : Hid (decR? (bytesOf s) = none) := Lib.hid (HDEC.out.2 (by simp))
        rw [HER.out] at HEN
        simp only [Bool.false_eq_true, if_false] at HEN
        clear HDEC HER HOE HOF HR0
        generalize r.may = my at *
        cases g
        · have t1 : decide ((fd.length : Int) < n) = false := decide_eq_false (by simp at hgo; omega)
          clear hgo
          go_wp2_with fail
          refine (HEN.out).mono ?_
          rintro e w2 ⟨rfl, hb⟩
          have hX2 := Lib.hid (keepH hb hX.out)
          have hG2 := Lib.hid (keepH hb hG.out)
          have hR2 := Lib.hid (keepH hb hR.out)
          have hB2 := Lib.hid (keepB hB.out hb)
          have c2 : w2.cell? ⟨w.heap.size + 1, 2, none⟩ = some (.bool false) := by rw [Lib.cell_of_heap hR2.out]; rfl
          have HST := Lib.hid (store_rec 0 0 0 0 0 0 none none 0 0 0 0 hG2.out rfl)
          clear hb HEN q0 q1 q2 q3 q4 q5 q6 q7
          go_upto_region 19 with fail
          go_wp2_with (refine wpList_store_known rfl 25 _ _ rfl ⟨w.heap.size, 0, none⟩ _ rfl rfl HST.out ?_)
          (try simp only [Exit.inBlock, Exit.then]); refine bodyPost_ret (v := .tuple #[.agg #[.int .i64 0, .int .i64 0, .int .i64 0, .int .i64 0, .int .i64 0, .int .i64 0, .slice none 0 0, .slice none 0 0], .int .i64 30]) (by rw [results_row_one (u := 3) rfl _ _ w.heap.size 25 #[.int .i64 0, .int .i64 0, .int .i64 0, .int .i64 0, .int .i64 0, .int .i64 0, .slice none 0 0, .slice none 0 0] (0, 0) _ rfl (setRow_heap _ _ _ _ _ _ hG2.out) Tryd.underlying25 rfl (by kernel_rfl)]; rfl) rfl ?_
          exact ⟨below_setRow hB2.out (Nat.le_refl _) _, .inl ⟨HNONE.out, rfl⟩⟩
        · cases hd : decide ((fd.length : Int) < n)
          · clear hgo
            go_wp2_with fail
            refine (HEN.out).mono ?_
            rintro e w2 ⟨rfl, hb⟩
            have hX2 := Lib.hid (keepH hb hX.out)
            have hG2 := Lib.hid (keepH hb hG.out)
            have hR2 := Lib.hid (keepH hb hR.out)
            have hB2 := Lib.hid (keepB hB.out hb)
            have c2 : w2.cell? ⟨w.heap.size + 1, 2, none⟩ = some (.bool true) := by rw [Lib.cell_of_heap hR2.out]; rfl
            have HST := Lib.hid (store_rec 0 0 0 0 0 0 none none 0 0 0 0 hG2.out rfl)
            clear hb HEN q0 q1 q2 q3 q4 q5 q6 q7
            go_upto_region 19 with fail
            go_wp2_with (refine wpList_store_known rfl 25 _ _ rfl ⟨w.heap.size, 0, none⟩ _ rfl rfl HST.out ?_)
            (try simp only [Exit.inBlock, Exit.then]); refine bodyPost_ret (v := .tuple #[.agg #[.int .i64 0, .int .i64 0, .int .i64 0, .int .i64 0, .int .i64 0, .int .i64 0, .slice none 0 0, .slice none 0 0], .int .i64 30]) (by rw [results_row_one (u := 3) rfl _ _ w.heap.size 25 #[.int .i64 0, .int .i64 0, .int .i64 0, .int .i64 0, .int .i64 0, .int .i64 0, .slice none 0 0, .slice none 0 0] (0, 0) _ rfl (setRow_heap _ _ _ _ _ _ hG2.out) Tryd.underlying25 rfl (by kernel_rfl)]; rfl) rfl ?_
            exact ⟨below_setRow hB2.out (Nat.le_refl _) _, .inl ⟨HNONE.out, rfl⟩⟩
          · clear hgo
            go_wp2_with fail
            refine (HEN.out).mono ?_
            rintro e w2 ⟨rfl, hb⟩
            have hX2 := Lib.hid (keepH hb hX.out)
            have hG2 := Lib.hid (keepH hb hG.out)
            have hR2 := Lib.hid (keepH hb hR.out)
            have hB2 := Lib.hid (keepB hB.out hb)
            have c2 : w2.cell? ⟨w.heap.size + 1, 2, none⟩ = some (.bool true) := by rw [Lib.cell_of_heap hR2.out]; rfl
            have HST := Lib.hid (store_rec 0 0 0 0 0 0 none none 0 0 0 0 hG2.out rfl)
            clear hb HEN q0 q1 q2 q3 q4 q5 q6 q7
            go_upto_region 19 with fail
            go_wp2_with (refine wpList_store_known rfl 25 _ _ rfl ⟨w.heap.size, 0, none⟩ _ rfl rfl HST.out ?_)
            (try simp only [Exit.inBlock, Exit.then]); refine bodyPost_ret (v := .tuple #[.agg #[.int .i64 0, .int .i64 0, .int .i64 0, .int .i64 0, .int .i64 0, .int .i64 0, .slice none 0 0, .slice none 0 0], .int .i64 30]) (by rw [results_row_one (u := 3) rfl _ _ w.heap.size 25 #[.int .i64 0, .int .i64 0, .int .i64 0, .int .i64 0, .int .i64 0, .int .i64 0, .slice none 0 0, .slice none 0 0] (0, 0) _ rfl (setRow_heap _ _ _ _ _ _ hG2.out) Tryd.underlying25 rfl (by kernel_rfl)]; rfl) rfl ?_
            exact ⟨below_setRow hB2.out (Nat.le_refl _) _, .inl ⟨HNONE.out, rfl⟩⟩
      | true =>
        rw [hm] at HDEC HER
        rw [HER.out] at HEN
        simp only [if_true] at HEN
        obtain ⟨T, HT⟩ : ∃ T : ByteArray, Hid (T = ⟨r.enc.toArray⟩) := ⟨_, Lib.hid rfl⟩
        rw [← HT.out] at HEN
        have HTS : Hid (T = s ↔ r.enc = bytesOf s) := Lib.hid (by
          rw [HT.out]
          constructor
          · intro h; rw [← h]; simp [bytesOf]
          · intro h; rw [h]; exact ByteArray.ext (by simp [bytesOf]))
        clear HER hm
        cases g
        · have t1 : decide ((fd.length : Int) < n) = false := decide_eq_false (by simp at hgo; omega)
          by_cases hTs : T = s
          · subst hTs
            have HSOME : Hid (decR? (bytesOf T) = some ⟨y0, y1, y2, y3, y4, y5, es, fd⟩) := Lib.hid (by
              rw [HDEC.out.1 ⟨rfl, rfl, HTS.out.1 rfl⟩, HR0.out])
            clear HDEC HTS HT hgo
            go_wp2_with fail
            refine (HEN.out).mono ?_
            rintro e w2 ⟨rfl, hb⟩
            have hX2 := Lib.hid (keepH hb hX.out)
            have hG2 := Lib.hid (keepH hb hG.out)
            have hR2 := Lib.hid (keepH hb hR.out)
            have hB2 := Lib.hid (keepB hB.out hb)
            have HOE2 := Lib.hid (HOE.out.below hb)
            have HOF2 := Lib.hid (HOF.out.below hb)
            have c2 : w2.cell? ⟨w.heap.size + 1, 2, none⟩ = some (.bool false) := by rw [Lib.cell_of_heap hR2.out]; rfl
            have q0 : w2.cell? ⟨w.heap.size + 1 + 1, 0, none⟩ = some (.int .i64 y0) := by rw [Lib.cell_of_heap hX2.out]; rfl
            have q1 : w2.cell? ⟨w.heap.size + 1 + 1, 1, none⟩ = some (.int .i64 y1) := by rw [Lib.cell_of_heap hX2.out]; rfl
            have q2 : w2.cell? ⟨w.heap.size + 1 + 1, 2, none⟩ = some (.int .i64 y2) := by rw [Lib.cell_of_heap hX2.out]; rfl
            have q3 : w2.cell? ⟨w.heap.size + 1 + 1, 3, none⟩ = some (.int .i64 y3) := by rw [Lib.cell_of_heap hX2.out]; rfl
            have q4 : w2.cell? ⟨w.heap.size + 1 + 1, 4, none⟩ = some (.int .i64 y4) := by rw [Lib.cell_of_heap hX2.out]; rfl
            have q5 : w2.cell? ⟨w.heap.size + 1 + 1, 5, none⟩ = some (.int .i64 y5) := by rw [Lib.cell_of_heap hX2.out]; rfl
            have q6 : w2.cell? ⟨w.heap.size + 1 + 1, 6, none⟩ = some (.slice A es.length c) := by rw [Lib.cell_of_heap hX2.out]; rfl
            have q7 : w2.cell? ⟨w.heap.size + 1 + 1, 7, none⟩ = some (.slice D fd.length d) := by rw [Lib.cell_of_heap hX2.out]; rfl
            have HST := Lib.hid (store_rec y0 y1 y2 y3 y4 y5 A D es.length c fd.length d hG2.out rfl)
            clear hb HEN
            go_upto_region 20 with fail
            go_wp2_with (refine wpList_store_known rfl 25 _ _ rfl ⟨w.heap.size, 0, none⟩ _ rfl rfl HST.out ?_)
            (try simp only [Exit.inBlock, Exit.then]); refine bodyPost_ret (v := .tuple #[.agg #[.int .i64 y0, .int .i64 y1, .int .i64 y2, .int .i64 y3, .int .i64 y4, .int .i64 y5, .slice A es.length c, .slice D fd.length d], .int .i64 0]) (by rw [results_row_one (u := 3) rfl _ _ w.heap.size 25 #[.int .i64 y0, .int .i64 y1, .int .i64 y2, .int .i64 y3, .int .i64 y4, .int .i64 y5, .slice A es.length c, .slice D fd.length d] (0, 0) _ rfl (setRow_heap _ _ _ _ _ _ hG2.out) Tryd.underlying25 rfl (by kernel_rfl)]; rfl) rfl ?_
            exact ⟨below_setRow hB2.out (Nat.le_refl _) _, .inr ⟨⟨y0, y1, y2, y3, y4, y5, es, fd⟩, A, D, c, d, HSOME.out, rfl, row_set HOE2.out HNE.out, row_set HOF2.out HNF.out⟩⟩
          · have hts : (T.toList == s.toList) = false := by rw [beq_eq_false_iff_ne]; exact fun e => hTs (tl_inj e)
            have HNONE : Hid (decR? (bytesOf s) = none) := Lib.hid (HDEC.out.2 fun h => hTs (HTS.out.2 h.2.2))
            clear HDEC HTS HT hgo HOE HOF HR0 hTs
            go_wp2_with fail
            refine (HEN.out).mono ?_
            rintro e w2 ⟨rfl, hb⟩
            have hX2 := Lib.hid (keepH hb hX.out)
            have hG2 := Lib.hid (keepH hb hG.out)
            have hR2 := Lib.hid (keepH hb hR.out)
            have hB2 := Lib.hid (keepB hB.out hb)
            have c2 : w2.cell? ⟨w.heap.size + 1, 2, none⟩ = some (.bool false) := by rw [Lib.cell_of_heap hR2.out]; rfl
            have HST := Lib.hid (store_rec 0 0 0 0 0 0 none none 0 0 0 0 hG2.out rfl)
            clear hb HEN q0 q1 q2 q3 q4 q5 q6 q7
            go_upto_region 19 with fail
            go_wp2_with (refine wpList_store_known rfl 25 _ _ rfl ⟨w.heap.size, 0, none⟩ _ rfl rfl HST.out ?_)
            (try simp only [Exit.inBlock, Exit.then]); refine bodyPost_ret (v := .tuple #[.agg #[.int .i64 0, .int .i64 0, .int .i64 0, .int .i64 0, .int .i64 0, .int .i64 0, .slice none 0 0, .slice none 0 0], .int .i64 30]) (by rw [results_row_one (u := 3) rfl _ _ w.heap.size 25 #[.int .i64 0, .int .i64 0, .int .i64 0, .int .i64 0, .int .i64 0, .int .i64 0, .slice none 0 0, .slice none 0 0] (0, 0) _ rfl (setRow_heap _ _ _ _ _ _ hG2.out) Tryd.underlying25 rfl (by kernel_rfl)]; rfl) rfl ?_
            exact ⟨below_setRow hB2.out (Nat.le_refl _) _, .inl ⟨HNONE.out, rfl⟩⟩
        · have HNONE : Hid (decR? (bytesOf s) = none) := Lib.hid (HDEC.out.2 (by simp))
          clear HDEC HTS HT HOE HOF HR0
          cases hd : decide ((fd.length : Int) < n)
          · clear hgo
            go_wp2_with fail
            refine (HEN.out).mono ?_
            rintro e w2 ⟨rfl, hb⟩
            have hX2 := Lib.hid (keepH hb hX.out)
            have hG2 := Lib.hid (keepH hb hG.out)
            have hR2 := Lib.hid (keepH hb hR.out)
            have hB2 := Lib.hid (keepB hB.out hb)
            have c2 : w2.cell? ⟨w.heap.size + 1, 2, none⟩ = some (.bool true) := by rw [Lib.cell_of_heap hR2.out]; rfl
            have HST := Lib.hid (store_rec 0 0 0 0 0 0 none none 0 0 0 0 hG2.out rfl)
            clear hb HEN q0 q1 q2 q3 q4 q5 q6 q7
            go_upto_region 19 with fail
            go_wp2_with (refine wpList_store_known rfl 25 _ _ rfl ⟨w.heap.size, 0, none⟩ _ rfl rfl HST.out ?_)
            (try simp only [Exit.inBlock, Exit.then]); refine bodyPost_ret (v := .tuple #[.agg #[.int .i64 0, .int .i64 0, .int .i64 0, .int .i64 0, .int .i64 0, .int .i64 0, .slice none 0 0, .slice none 0 0], .int .i64 30]) (by rw [results_row_one (u := 3) rfl _ _ w.heap.size 25 #[.int .i64 0, .int .i64 0, .int .i64 0, .int .i64 0, .int .i64 0, .int .i64 0, .slice none 0 0, .slice none 0 0] (0, 0) _ rfl (setRow_heap _ _ _ _ _ _ hG2.out) Tryd.underlying25 rfl (by kernel_rfl)]; rfl) rfl ?_
            exact ⟨below_setRow hB2.out (Nat.le_refl _) _, .inl ⟨HNONE.out, rfl⟩⟩
          · clear hgo
            go_wp2_with fail
            refine (HEN.out).mono ?_
            rintro e w2 ⟨rfl, hb⟩
            have hX2 := Lib.hid (keepH hb hX.out)
            have hG2 := Lib.hid (keepH hb hG.out)
            have hR2 := Lib.hid (keepH hb hR.out)
            have hB2 := Lib.hid (keepB hB.out hb)
            have c2 : w2.cell? ⟨w.heap.size + 1, 2, none⟩ = some (.bool true) := by rw [Lib.cell_of_heap hR2.out]; rfl
            have HST := Lib.hid (store_rec 0 0 0 0 0 0 none none 0 0 0 0 hG2.out rfl)
            clear hb HEN q0 q1 q2 q3 q4 q5 q6 q7
            go_upto_region 19 with fail
            go_wp2_with (refine wpList_store_known rfl 25 _ _ rfl ⟨w.heap.size, 0, none⟩ _ rfl rfl HST.out ?_)
            (try simp only [Exit.inBlock, Exit.then]); refine bodyPost_ret (v := .tuple #[.agg #[.int .i64 0, .int .i64 0, .int .i64 0, .int .i64 0, .int .i64 0, .int .i64 0, .slice none 0 0, .slice none 0 0], .int .i64 30]) (by rw [results_row_one (u := 3) rfl _ _ w.heap.size 25 #[.int .i64 0, .int .i64 0, .int .i64 0, .int .i64 0, .int .i64 0, .int .i64 0, .slice none 0 0, .slice none 0 0] (0, 0) _ rfl (setRow_heap _ _ _ _ _ _ hG2.out) Tryd.underlying25 rfl (by kernel_rfl)]; rfl) rfl ?_
            exact ⟨below_setRow hB2.out (Nat.le_refl _) _, .inl ⟨HNONE.out, rfl⟩⟩
end Go.Proofs.YtkdnhfeamibmdaaDoor
