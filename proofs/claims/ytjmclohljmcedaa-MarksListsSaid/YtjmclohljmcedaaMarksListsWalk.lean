/-
  The walk of the law MarksLists: it returns true and writes nothing that was there.
-/
import Derived.Test.YtjmclohljmcedaaCuts
namespace Go.Proofs.Ytjmclohljmcedaa.marksListsW
open Go.RowKit
def allL : Option (List Int × Nat) → List Int
  | some (l, _) => l
  | none => []
def allP : Option (List Int × Nat) → Nat
  | some (_, k) => k
  | none => 0
def allB : Option (List Int × Nat) → Bool
  | some _ => true
  | none => false
theorem all_val {g : Option (List Int × Nat)} {w w' : World} {e : Ending} (h : AllPost g w e w') :
    ∃ v, e = .returned (.tuple #[v, .int .i64 (allP g : Nat), .bool (allB g)]) ∧ intRow w' w.heap.size v (allL g) ∧ Below w.heap.size w w' := by
  obtain ⟨hb, h⟩ := h
  rcases g with _ | ⟨l, k⟩
  · exact ⟨_, h, World.ownsRow_nil _ _ _ _, hb⟩
  · obtain ⟨v, he, hr⟩ := h
    exact ⟨v, he, hr, hb⟩
/-- What the law makes of a list: its ints, and two more behind them. -/
theorem row_cells {w : World} {base g L : Nat} {l : List Int} (hL : l.length = L) (h : w.ownsRow base 3 1 (.slice (some ⟨g, 0, none⟩) (L + 2) (L + 2)) (L + 2) (l.map (Value.int .i64) ++ [.int .i64 (-70), .int .i64 (-71)])) :
    Ints w w.heap.size (.slice (some ⟨g, 0, none⟩) L (L + 2)) l ∧ w.cell? ⟨g, L, none⟩ = some (.int .i64 (-70)) ∧ w.cell? ⟨g, L + 1, none⟩ = some (.int .i64 (-71)) ∧ g < w.heap.size := by
  have hc := fun j (hj : j < L + 2) => World.ownsRow.cellAt h j (by omega)
  have h1 : w.cell? ⟨g, L, none⟩ = some (.int .i64 (-70)) := by rw [hc L (by omega)]; simp [hL]
  have h2 : w.cell? ⟨g, L + 1, none⟩ = some (.int .i64 (-71)) := by rw [hc (L + 1) (by omega)]; simp [hL]
  have hg : g < w.heap.size := World.block_lt_of_cell? w _ h1
  refine ⟨⟨_, L + 2, by rw [hL], by omega, fun _ => ⟨g, 0, rfl, hg, fun j hj => ?_⟩⟩, h1, h2, hg⟩
  rw [Nat.zero_add, hc j (by omega), List.getElem?_append_left (by simpa using hj)]
  simp [hj]
theorem src_cells {w w1 : World} {A : Option Addr} {l : List Int} {cv : Nat} (hi : Ints w w.heap.size (.slice A l.length cv) l) (hb : Below w.heap.size w w1) :
    ∀ ad, A = some ad → ∀ j u, (l.map (Value.int .i64))[j]? = some u → w1.cell? (ad.add j) = some u := by
  intro ad had j u hu
  have hj : j < l.length := by
    have := (List.getElem?_eq_some_iff.1 hu).1
    simpa using this
  obtain ⟨A', c', h1, _, h3⟩ := hi
  injection h1 with h1 _ _
  subst h1
  obtain ⟨b, off, h4, h5, h6⟩ := h3 (by omega)
  obtain rfl := Option.some.inj (had.symm.trans h4)
  rw [Addr.add_lit, hb.cell (p := ⟨b, off + j, none⟩) h5, h6 j hj, ← hu]
  simp [List.getD, hj]
theorem two_cells (w : World) : ∀ j u, [Value.int .i64 (-70), .int .i64 (-71)][j]? = some u → (w.alloc (.cells #[.int .i64 (-70), .int .i64 (-71)] 3)).cell? ((⟨w.heap.size, 0, none⟩ : Addr).add j) = some u := by
  intro j u hu
  have hj : j < 2 := by
    have := (List.getElem?_eq_some_iff.1 hu).1
    simpa using this
  rcases (show j = 0 ∨ j = 1 by omega) with rfl | rfl
  · simp at hu; subst hu; simp [go_sem, Addr.add]
  · simp at hu; subst hu; simp [go_sem, Addr.add]
theorem row_keep {w w' : World} {base : Nat} {v : Value} {l : List Int} (h : intRow w base v l) (hb : Below w.heap.size w w') : intRow w' base v l :=
  World.ownsRow.kept (row := none) h ⟨hb.os, hb.tape, hb.output, hb.size, fun k hk _ => hb.block k hk⟩ (by
    rcases hv : v.ownBlock with _ | g
    · exact .inl rfl
    · exact .inr (by simp))
/-- A row of the call's own, of so many ints, whichever they are. -/
def RowAny (w : World) (base : Nat) (A : Option Addr) (n c : Nat) : Prop := ∃ xs, w.ownsRow base 3 1 (.slice A n c) n xs
theorem RowAny.at_ {w : World} {base : Nat} {A : Option Addr} {n c k : Nat} (h : RowAny w base A n c) (hk : k < n) :
    ∃ g u, A = some ⟨g, 0, none⟩ ∧ base ≤ g ∧ w.cell? ⟨g, k, none⟩ = some u ∧ w.frozen? ⟨g, k, none⟩ = false ∧ RowAny (w.setCell ⟨g, k, none⟩ (.int .i64 (-9))) base A n c := by
  obtain ⟨xs, ho⟩ := h
  rcases ho.2 with ⟨h1, h2⟩ | ⟨g, cap, _, h1, h2, _⟩
  · omega
  · injection h1 with h1 _ h3
    subst h1 h3
    have hl := ho.1
    have hx : k < xs.length := by omega
    have hc := World.ownsRow.cellAt ho k (by omega)
    rw [List.getElem?_eq_getElem hx] at hc
    exact ⟨g, _, rfl, h2, hc, World.ownsRow.frozenAt ho k, _, (World.ownsRow.stored ho k (.int .i64 (-9))).1⟩
theorem row_other {w : World} {base : Nat} {v : Value} {l : List Int} {g j : Nat} {u : Value} (h : intRow w base v l) (hg : g < base) : intRow (w.setCell ⟨g, j, none⟩ u) base v l :=
  World.ownsRow.kept (row := some g) h ⟨rfl, rfl, rfl, by simp [World.setCell], fun k _ hk => Below.heap_setCell _ _ _ _ (fun e => hk (by simp [e]))⟩ (by
    rcases hv : v.ownBlock with _ | g'
    · exact .inl rfl
    · refine .inr fun e => ?_
      have := (World.ownsRow.lt h g' hv).1
      simp at e
      omega)
theorem gotN_len : ∀ (l : List UInt8) (c p : Nat) (ns : List Int) (q : Nat), gotN l c p = some (ns, q) → ns.length = c
  | _, 0, _, _, _, h => by
    simp only [gotN, Option.some.injEq, Prod.mk.injEq] at h
    simp [← h.1]
  | l, c + 1, p, ns, q, h => by
    simp only [gotN] at h
    split at h
    · cases h
    · rename_i n m _
      rcases hd : gotN l c m with _ | ⟨ms, r⟩
      · rw [hd] at h; cases h
      · rw [hd] at h
        simp only [Option.map_some, Option.some.injEq, Prod.mk.injEq] at h
        rw [← h.1, List.length_cons, gotN_len l c m ms r hd]
theorem all_len (l : List UInt8) (a : Int) : (allL (gotAll l a)).length ≤ l.length := by
  rcases hg : gotAll l a with _ | ⟨ns, q⟩
  · simp [allL]
  · unfold gotAll at hg
    rcases hc : gotCount l a with _ | ⟨c, k⟩
    · rw [hc] at hg; cases hg
    · rw [hc] at hg
      have := gotN_len l c k ns q hg
      have := gotCount_bd hc
      simp only [allL]
      omega
set_option maxRecDepth 100000 in
set_option maxHeartbeats 2000000 in
theorem walk_near (A : Option Addr) (cv : Nat) (s : ByteArray) (a : Int) (l : List Int) (w : World) (hl : l.length ≤ 500) (hs : s.size ≤ 5000) (hi : Ints w w.heap.size (.slice A l.length cv) l) (hnone : A = none → l.length = 0 ∧ cv = 0) (hf : Fits l) :
    Calls Try.prog 6 #[.slice A l.length cv, .string s, .int .i64 a] w fun e w' => e = .returned (.bool true) ∧ Below w.heap.size w w' := by
  obtain ⟨i0, hi0, hz0, hz1, hz2⟩ := info_parts Try.info_int
  have HI := Lib.hid hi
  have HF := Lib.hid hf
  have HN := Lib.hid hnone
  have HCV : Hid (l.length ≤ cv) := by
    obtain ⟨_, _, h1, h2, _⟩ := hi
    injection h1 with _ _ h1
    subst h1
    exact h2
  have q1 : decide ((500 : Int) < (l.length : Int)) = false := decide_eq_false (by omega)
  have q2 : decide ((5000 : Int) < (s.size : Int)) = false := decide_eq_false (by omega)
  have HBY : Hid (i0.bytes * (l.length + 2) ≤ 281474976710656) := by show _ ≤ _; rw [hz2]; omega
  clear hi hf hnone
  go_enter Try.func6, Try.ntmps6
  go_wp2_with (first
    | (at_make; refine wpList_make_own _ rfl _ _ 32 rfl w.heap.size 3 i0 (.int .i64 0) 1 Try.underlying32 hi0 hz0 hz1 .i64 .i64 ((l.length : Int) + 2) (l.length + 2) rfl rfl (by omega) HBY.out (by unfold maxLen; omega) (Nat.le_refl _) ?_; intro w1 hown1 hgrow1; have hb1 : Below w.heap.size w w1 := (Below.refl _ _).grown hgrow1 (Nat.le_refl _) (fun k hk => by cases hk))
    | (at_builtin; refine wpList_append_fits_any _ rfl (Operand.tmp 29) (Operand.tmp 30) 32 rfl w.heap.size 3 i0 1 Try.underlying32 hi0 hz1 w.heap.size 0 (l.length + 2) [] rfl hown1 A l.length cv (l.map (Value.int .i64)) rfl (by simp) HN.out (src_cells HI.out hb1) (ints_oneCell _ _) (by omega) ?_; intro w2 hown2 hgrow2; simp only [Nat.zero_add, List.nil_append] at hown2; have hb2 := hb1.grown hgrow2 hb1.size (fun k hk => by cases hk; exact Nat.le_refl _))
    | (at_builtin; refine wpList_append_fits _ rfl (Operand.tmp 31) (Operand.tmp 32) 32 rfl w.heap.size 3 i0 1 Try.underlying32 hi0 hz1 w.heap.size l.length (l.length + 2) (l.map (Value.int .i64)) rfl (World.ownsRow.alloc hown2 _) ⟨w2.heap.size, 0, none⟩ 2 2 [.int .i64 (-70), .int .i64 (-71)] rfl rfl (two_cells _) (fun x hx => by simp at hx; rcases hx with rfl | rfl <;> rfl) (by omega) ?_; intro w3 hown3 hgrow3; have hb3 := (hb2.alloc hb2.size (.cells #[.int .i64 (-70), .int .i64 (-71)] 3)).grown hgrow3 (Nat.le_trans hb2.size (by simp)) (fun k hk => by cases hk; exact Nat.le_refl _)))
  obtain ⟨ri, rc1, rc2, rg⟩ := row_cells rfl hown3
  have RI := Lib.hid ri
  have RC1 := Lib.hid rc1
  have RC2 := Lib.hid rc2
  clear ri rc1 rc2 hown1 hown2 hown3 hgrow1 hgrow2 hgrow3 hb1 hb2 HBY
  refine (putAll_any _ l _ RI.out HF.out (by omega)).mono ?_
  rintro e w4 ⟨rfl, hb4⟩
  have h04 := hb3.trans (hb4.mono hb3.size)
  go_wp2_with fail
  refine (rputAll_any _ l _ (HI.out.keep h04 h04.size) HF.out (by omega)).mono ?_
  rintro e w5 ⟨rfl, hb5⟩
  have h05 := h04.trans (hb5.mono h04.size)
  have h35 := hb4.trans (hb5.mono hb4.size)
  go_wp2_with fail
  refine (same_any _ _ l _ _ _ (RI.out.keep h35 h35.size) (HI.out.keep h05 h05.size) (by omega)).mono ?_
  rintro e w6 ⟨rfl, hs6⟩
  have h06 := h05.trans (hs6 _)
  have h36 := h35.trans (hs6 _)
  have c1 := (h36.cell (p := ⟨w.heap.size, l.length, none⟩) rg).trans RC1.out
  have c2 := (h36.cell (p := ⟨w.heap.size, l.length + 1, none⟩) rg).trans RC2.out
  clear hb3 hb4 hb5 h04 h05 h35 h36 hs6 hi0 hz0 hz1 hz2
  go_wp2_with fail
  clear c1 c2
  have hal := all_len (bytesOf s) a
  rw [bytes_len] at hal
  refine (getAll_any _ _ _ (by omega)).mono ?_
  intro e w7 hp
  obtain ⟨v7, rfl, hr7, hb7⟩ := all_val hp
  clear hp
  have h07 := h06.trans (hb7.mono h06.size)
  have HR7 := Lib.hid hr7
  clear hr7
  go_wp2_with fail
  refine (rgetAll_any _ _ _ (by omega)).mono ?_
  intro e w8 hp
  obtain ⟨v8, rfl, hr8, hb8⟩ := all_val hp
  clear hp
  have h08 := h07.trans (hb8.mono h07.size)
  have hr7 := row_keep HR7.out hb8
  have HR8 := Lib.hid hr8
  have HLT7 := Lib.hid (World.ownsRow.lt HR7.out)
  clear hr8 HR7
  have HGA := Lib.hid (show gotAll (bytesOf s) a = gotAll (bytesOf s) a from rfl)
  generalize hG : gotAll (bytesOf s) a = G at *
  have HG := Lib.hid hG
  clear hG HGA
  generalize hNS : allL G = ns at *
  have HNS := Lib.hid hNS
  clear hNS
  have HR7 := Lib.hid hr7
  clear hr7
  go_wp2_with fail
  refine (same_any _ _ ns _ _ _ (Ints.own HR7.out) (Ints.own HR8.out) (by omega)).mono ?_
  rintro e w9 ⟨rfl, hs9⟩
  have h09 := h08.trans (hs9 _)
  have hr7 : intRow w9 w6.heap.size v7 ns := hs9.owns HR7.out
  have hr8 : intRow w9 w7.heap.size v8 ns := hs9.owns HR8.out
  clear hs9 HR7 HR8 hb8 h08 h07
  have hsz := hb7.size
  clear hb7
  have h6 := h06.size
  obtain ⟨A7, c7, rfl⟩ : ∃ A7 c7, v7 = .slice A7 ns.length c7 := by
    rcases hr7.2 with ⟨h1, h2⟩ | ⟨g, c, _, h1, _⟩
    · exact ⟨none, 0, by rw [h1, h2]⟩
    · exact ⟨_, c, h1⟩
  have HR7 : Hid (RowAny w9 w6.heap.size A7 ns.length c7) := ⟨_, hr7⟩
  have HR8 := Lib.hid hr8
  clear hr7 hr8
  go_wp2_with fail
  go_loopw [14] (fun i wr => ∃ k : Nat, k ≤ ns.length ∧ i = .int .i64 k ∧ RowAny wr w6.heap.size A7 ns.length c7 ∧ intRow wr w7.heap.size v8 ns ∧ Below w.heap.size w wr) (fun i _ => ns.length - (intOf i).toNat)
  case atStart => exact ⟨0, Nat.zero_le _, rfl, HR7.out, HR8.out, h09⟩
  case round =>
    obtain ⟨k, hk, rfl, hra, hrb, hbel⟩ := hrel
    have hszr := hbel.size
    by_cases hlt : k < ns.length
    · obtain ⟨g, u, rfl, hg1, hcl, hfz, hra'⟩ := hra.at_ hlt
      have hg2 := (HLT7.out g rfl).2
      have hrb' := row_other (g := g) (j := k) (u := .int .i64 (-9)) hrb (by omega)
      have hbel' := hbel.setCell (p := ⟨g, k, none⟩) (show w.heap.size ≤ g by omega) (.int .i64 (-9))
      have HRA := Lib.hid hra'
      have HRB := Lib.hid hrb'
      clear hra hra' hrb hrb'
      go_wp2_with fail
      go_roundw
      case rel => exact ⟨k + 1, by omega, by go_num, HRA.out, HRB.out, hbel'⟩
      case measure => simp [intOf]; omega
    · have HRB := Lib.hid hrb
      clear hra hrb
      go_wp2_with fail
      refine (getAll_any _ _ _ (by omega)).mono ?_
      intro e w10 hp
      rw [HG.out] at hp
      obtain ⟨v10, rfl, hr10, hb10⟩ := all_val hp
      clear hp
      rw [HNS.out] at hr10
      have h010 := hbel.trans (hb10.mono hszr)
      have hr8 := row_keep HRB.out hb10
      have HR10 := Lib.hid hr10
      have HR8 := Lib.hid hr8
      clear hr10 hr8
      go_wp2_with fail
      refine (same_any _ _ ns _ _ _ (Ints.own HR10.out) (Ints.own HR8.out) (by omega)).mono ?_
      rintro e w11 ⟨rfl, hs11⟩
      have h011 := h010.trans (hs11 _)
      go_wp2_with fail
      refine (works_any _).mono ?_
      rintro e w12 ⟨rfl, hb12⟩
      go_wp2_with fail
      go_ret
      exact ⟨rfl, h011.trans (hb12.mono h011.size)⟩
set_option maxRecDepth 100000 in
set_option maxHeartbeats 1000000 in
theorem walk_far (A : Option Addr) (len cap : Nat) (s : ByteArray) (a : Int) (w : World) (h : ¬ (len ≤ 500 ∧ s.size ≤ 5000)) :
    Calls Try.prog 6 #[.slice A len cap, .string s, .int .i64 a] w fun e w' => e = .returned (.bool true) ∧ Below w.heap.size w w' := by
  by_cases l1 : len ≤ 500
  · have l2 : 5000 < s.size := by omega
    go_enter Try.func6, Try.ntmps6
    go_wp2_with fail
    go_ret
    exact ⟨rfl, Below.refl _ _⟩
  · have l2 : 500 < len := by omega
    go_enter Try.func6, Try.ntmps6
    go_wp2_with fail
    go_ret
    exact ⟨rfl, Below.refl _ _⟩
theorem walk (a0 : Option Addr) (len0 cap0 : Nat) (z0 : List Int) (a1 : ByteArray) (a2 : Int) (w : World) (w0 : IsRow .i64 w a0 len0 cap0 z0) (_w1 : a1.size ≤ maxLen) (_w2 : (Lit.int .i64 a2).wf = true) :
    Calls Try.prog 6 #[.slice a0 len0 cap0, .string a1, .int .i64 a2] w fun e w' => e = .returned (.bool true) ∧ Below w.heap.size w w' := by
  obtain ⟨h1, h2, h3⟩ := w0.ints
  by_cases h : len0 ≤ 500 ∧ a1.size ≤ 5000
  · have hn : a0 = none → (z0.take len0).length = 0 ∧ cap0 = 0 := by
      intro e
      rcases w0 with ⟨_, e1, e2, e3⟩ | ⟨x, e1, _⟩
      · exact ⟨by rw [e3]; simp, e2⟩
      · rw [e1] at e; cases e
    have := walk_near a0 cap0 a1 a2 (z0.take len0) w (by omega) h.2 (by rw [h1]; exact h2) hn h3
    rwa [h1] at this
  · exact walk_far a0 len0 cap0 a1 a2 w h
end Go.Proofs.Ytjmclohljmcedaa.marksListsW
