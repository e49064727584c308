/-
  Twins of entries and spots: rows of one's own, with room behind, put together in regions that draw.
-/
import Derived.Test.YtkdnhfeamibmdaaDoorRFree
import Derived.Test.YtkdnhfeamibmdaaDoorRcDec
import Derived.Deep.AppendSrc
import Derived.ArgAppend
import Derived.OwnWalk
namespace Go.Proofs.YtkdnhfeamibmdaaDoor
open Go.RowKit Go.Sort Go.Maps
def ecs (es : List En) : List Value := (es.map En.l).flatten.map (Value.int .i64)
theorem ecs_append (a b : List En) : ecs (a ++ b) = ecs a ++ ecs b := by simp [ecs]
theorem en_flat (es : List En) : (es.map En.l).flatten.length = es.length * 6 := by
  rw [flatten_len (k := 6) (fun x hx => by obtain ⟨e, _, rfl⟩ := List.mem_map.1 hx; rfl), List.length_map]
theorem ecs_len (es : List En) : (ecs es).length = es.length * 6 := by rw [ecs, List.length_map, en_flat]
theorem ecs_one (es : List En) : ∀ u ∈ ecs es, u.oneCell' = true := by
  intro u hu
  obtain ⟨n, _, rfl⟩ := List.mem_map.1 hu
  rfl
theorem Tryd.info_rentry : (Tryd.prog.info? 30).map (fun i => (i.zero, i.size, i.bytes)) = some (some (.agg #[.int .i64 0, .int .i64 0, .int .i64 0, .int .i64 0, .int .i64 0, .int .i64 0]), 6, 48) := by kernel_rfl
theorem own_is_slice {w : World} {base : Nat} {e : TypeId} {size n : Nat} {v : Value} {xs : List Value} (h : w.ownsRow base e size v n xs) : ∃ A c, v = .slice A n c ∧ n ≤ c := by
  rcases h.2 with ⟨rfl, rfl⟩ | ⟨g, cap, cur, rfl, _, _, hnc, _⟩
  · exact ⟨none, 0, rfl, Nat.le_refl _⟩
  · exact ⟨_, _, rfl, hnc⟩
/-- 'append' of entries, whosever, to a row of one's own. -/
theorem run_append_es {w : World} {B base n : Nat} {v ka : Value} {xs : List Value} {es : List En} (ho : w.ownsRow base 30 6 v n xs) (hk : EsB B w ka es) (hb : base ≤ w.heap.size) (hnl : n + es.length ≤ 1000000) :
    ∃ A c w', (Builtin.append_ #[22, 22] 22 #[v, ka]).run Tryd.prog w = .ok (.slice A (n + es.length) c) w' ∧ w'.ownsRow base 30 6 (.slice A (n + es.length) c) (n + es.length) (xs ++ ecs es) ∧ w.grownBy w' v.ownBlock ∧ ((Value.slice A (n + es.length) c).ownBlock = v.ownBlock ∨ (Value.slice A (n + es.length) c).ownBlock = some w.heap.size) := by
  obtain ⟨i0, hi0, hz0, hz1, hz2⟩ := info_parts Tryd.info_rentry
  obtain ⟨KA, kc, rfl, h1, h2, h3, h4⟩ := hk
  rcases es with _ | ⟨y, l⟩
  · obtain ⟨A, c, rfl, hac⟩ := own_is_slice ho
    have hs : Src Tryd.prog i0.size 22 (.slice KA 0 kc) 0 [] w := by
      rcases KA with _ | a
      · exact Src.ofNil w Tryd.underlying22 kc
      · exact Src.ofSlice w Tryd.underlying22 a 0 kc [] (by simp) (fun j u h => by simp at h) (fun u h => by simp at h)
    refine ⟨A, c, w, run_append_nothing w _ _ _ 30 i0 Tryd.underlying22 hi0 A n c hac _ hs, ?_, World.grownBy.refl w _, .inl rfl⟩
    simpa [ecs] using ho
  · obtain ⟨b, off, rfl, hbl, hc⟩ := h4 (by simp)
    obtain ⟨v', w', hr, ho', hg, _, hat⟩ := run_append_own_at (P := Tryd.prog) w base 22 22 30 i0 _ 6 48 Tryd.underlying22 hi0 hz0 hz1 hz2 rfl (by decide) v n xs ho ⟨b, off, none⟩ (y :: l).length kc (ecs (y :: l)) (ecs_len _)
      (fun j u hu => by
        rw [ecs, List.getElem?_map] at hu
        obtain ⟨x, hx, rfl⟩ := Option.map_eq_some_iff.1 hu
        rw [Addr.add_lit]; exact hc j x hx) (ecs_one _) (Nat.le_trans hnl (by decide)) (by omega) hb
    obtain ⟨A, c, rfl, _⟩ := own_is_slice ho'
    exact ⟨A, c, w', hr, ho', hg, hat⟩
/-- A row of one's own of entries reads so. -/
theorem own_eshape {w : World} {base n : Nat} {v : Value} {xs : List Value} (h : w.ownsRow base 30 6 v n xs) (hn : 0 < n) : ∃ g c, v = .slice (some ⟨g, 0, none⟩) n c ∧ base ≤ g ∧ g < w.heap.size ∧ n ≤ c ∧ c ≤ maxLen ∧ (∀ i, w.frozen? ⟨g, i, none⟩ = false) ∧ ∀ j, j < n * 6 → w.cell? ⟨g, j, none⟩ = xs[j]? := by
  rcases h.2 with ⟨_, h0⟩ | ⟨g, cap, cur, hv, hb, hg, hnc, hcm, hcs, ht⟩
  · omega
  · have hr := h
    rw [hv] at hr
    exact ⟨g, cap, hv, hb, lt_of_block hg, hnc, hcm, fun i => Lib.frozen_of_heap hg i, fun j hj => World.ownsRow.cellAt hr j hj⟩
theorem own_es {w : World} {base : Nat} {v : Value} {es : List En} (h : w.ownsRow base 30 6 v es.length (ecs es)) (hl : es.length ≤ 1000000) : EsB w.heap.size w v es := by
  by_cases h0 : es.length = 0
  · obtain rfl : es = [] := List.eq_nil_of_length_eq_zero h0
    rcases h.2 with ⟨rfl, _⟩ | ⟨g, cap, cur, rfl, hb, hg, hnc, hcm, _⟩
    · exact ⟨none, 0, rfl, Nat.le_refl _, Nat.zero_le _, fun _ => ⟨rfl, rfl⟩, fun h => by simp at h⟩
    · exact ⟨_, cap, rfl, Nat.zero_le _, hcm, (fun e => by cases e), fun h => by simp at h⟩
  · obtain ⟨g, c, rfl, hb, hg, hnc, hcm, _, hx⟩ := own_eshape h (by omega)
    refine ⟨_, c, rfl, hnc, hcm, (fun e => by cases e), fun _ => ⟨g, 0, rfl, hg, fun j x hj => ?_⟩⟩
    have hjl : j < es.length * 6 := by rw [← en_flat]; exact (List.getElem?_eq_some_iff.1 hj).1
    rw [Nat.zero_add, hx j hjl, ecs, List.getElem?_map, hj]; rfl
def ezs (n : Nat) : Array Value := madeCells (Value.agg #[.int .i64 0, .int .i64 0, .int .i64 0, .int .i64 0, .int .i64 0, .int .i64 0]).cells (n * 6)
theorem emade_run (X : World) (n : Nat) (hn : n ≤ 100000) : (Instr.makeSlice 22 (.int .i64 0) (.int .i64 (n : Int))).run Tryd.prog X = .ok (.slice (some ⟨X.heap.size, 0, none⟩) 0 n) (X.alloc (.cells (ezs n) 30)) := by
  obtain ⟨i0, hi0, hz0, hz1, hz2⟩ := info_parts Tryd.info_rentry
  have h := run_makeSlice (P := Tryd.prog) X 22 30 i0 _ Tryd.underlying22 hi0 hz0 .i64 .i64 0 (n : Int) (Int.le_refl _) (by omega) (by rw [hz1]; omega) (by rw [hz2]; omega) (by omega)
  rw [hz1] at h
  exact h
theorem emade_own (X : World) {n : Nat} (hn : n ≤ 100000) : (X.alloc (.cells (ezs n) 30)).ownsRow X.heap.size 30 6 (.slice (some ⟨X.heap.size, 0, none⟩) 0 n) 0 [] := by
  refine ⟨rfl, .inr ⟨X.heap.size, n, ezs n, rfl, Nat.le_refl _, heap_alloc_new X _, Nat.zero_le _, Nat.le_trans hn (by decide), ?_, rfl⟩⟩
  simp [ezs, madeCells]
def fcs (es : List Sp) : List Value := (es.map Sp.l).flatten.map (Value.int .i64)
theorem fcs_append (a b : List Sp) : fcs (a ++ b) = fcs a ++ fcs b := by simp [fcs]
theorem sp_flat (es : List Sp) : (es.map Sp.l).flatten.length = es.length * 2 := by
  rw [flatten_len (k := 2) (fun x hx => by obtain ⟨e, _, rfl⟩ := List.mem_map.1 hx; rfl), List.length_map]
theorem fcs_len (es : List Sp) : (fcs es).length = es.length * 2 := by rw [fcs, List.length_map, sp_flat]
theorem fcs_one (es : List Sp) : ∀ u ∈ fcs es, u.oneCell' = true := by
  intro u hu
  obtain ⟨n, _, rfl⟩ := List.mem_map.1 hu
  rfl
theorem Tryd.info_rspot : (Tryd.prog.info? 32).map (fun i => (i.zero, i.size, i.bytes)) = some (some (.agg #[.int .i64 0, .int .i64 0]), 2, 16) := by kernel_rfl
/-- 'append' of entries, whosever, to a row of one's own. -/
theorem run_append_fs {w : World} {B base n : Nat} {v ka : Value} {xs : List Value} {es : List Sp} (ho : w.ownsRow base 32 2 v n xs) (hk : FdB B w ka es) (hb : base ≤ w.heap.size) (hnl : n + es.length ≤ 1000000) :
    ∃ A c w', (Builtin.append_ #[23, 23] 23 #[v, ka]).run Tryd.prog w = .ok (.slice A (n + es.length) c) w' ∧ w'.ownsRow base 32 2 (.slice A (n + es.length) c) (n + es.length) (xs ++ fcs es) ∧ w.grownBy w' v.ownBlock ∧ ((Value.slice A (n + es.length) c).ownBlock = v.ownBlock ∨ (Value.slice A (n + es.length) c).ownBlock = some w.heap.size) := by
  obtain ⟨i0, hi0, hz0, hz1, hz2⟩ := info_parts Tryd.info_rspot
  obtain ⟨KA, kc, rfl, h1, h2, h3, h4⟩ := hk
  rcases es with _ | ⟨y, l⟩
  · obtain ⟨A, c, rfl, hac⟩ := own_is_slice ho
    have hs : Src Tryd.prog i0.size 23 (.slice KA 0 kc) 0 [] w := by
      rcases KA with _ | a
      · exact Src.ofNil w Tryd.underlying23 kc
      · exact Src.ofSlice w Tryd.underlying23 a 0 kc [] (by simp) (fun j u h => by simp at h) (fun u h => by simp at h)
    refine ⟨A, c, w, run_append_nothing w _ _ _ 32 i0 Tryd.underlying23 hi0 A n c hac _ hs, ?_, World.grownBy.refl w _, .inl rfl⟩
    simpa [fcs] using ho
  · obtain ⟨b, off, rfl, hbl, hc⟩ := h4 (by simp)
    obtain ⟨v', w', hr, ho', hg, _, hat⟩ := run_append_own_at (P := Tryd.prog) w base 23 23 32 i0 _ 2 16 Tryd.underlying23 hi0 hz0 hz1 hz2 rfl (by decide) v n xs ho ⟨b, off, none⟩ (y :: l).length kc (fcs (y :: l)) (fcs_len _)
      (fun j u hu => by
        rw [fcs, List.getElem?_map] at hu
        obtain ⟨x, hx, rfl⟩ := Option.map_eq_some_iff.1 hu
        rw [Addr.add_lit]; exact hc j x hx) (fcs_one _) (Nat.le_trans hnl (by decide)) (by omega) hb
    obtain ⟨A, c, rfl, _⟩ := own_is_slice ho'
    exact ⟨A, c, w', hr, ho', hg, hat⟩
/-- A row of one's own of entries reads so. -/
theorem own_fshape {w : World} {base n : Nat} {v : Value} {xs : List Value} (h : w.ownsRow base 32 2 v n xs) (hn : 0 < n) : ∃ g c, v = .slice (some ⟨g, 0, none⟩) n c ∧ base ≤ g ∧ g < w.heap.size ∧ n ≤ c ∧ c ≤ maxLen ∧ (∀ i, w.frozen? ⟨g, i, none⟩ = false) ∧ ∀ j, j < n * 2 → w.cell? ⟨g, j, none⟩ = xs[j]? := by
  rcases h.2 with ⟨_, h0⟩ | ⟨g, cap, cur, hv, hb, hg, hnc, hcm, hcs, ht⟩
  · omega
  · have hr := h
    rw [hv] at hr
    exact ⟨g, cap, hv, hb, lt_of_block hg, hnc, hcm, fun i => Lib.frozen_of_heap hg i, fun j hj => World.ownsRow.cellAt hr j hj⟩
theorem own_fs {w : World} {base : Nat} {v : Value} {es : List Sp} (h : w.ownsRow base 32 2 v es.length (fcs es)) (hl : es.length ≤ 1000000) : FdB w.heap.size w v es := by
  by_cases h0 : es.length = 0
  · obtain rfl : es = [] := List.eq_nil_of_length_eq_zero h0
    rcases h.2 with ⟨rfl, _⟩ | ⟨g, cap, cur, rfl, hb, hg, hnc, hcm, _⟩
    · exact ⟨none, 0, rfl, Nat.le_refl _, Nat.zero_le _, fun _ => ⟨rfl, rfl⟩, fun h => by simp at h⟩
    · exact ⟨_, cap, rfl, Nat.zero_le _, hcm, (fun e => by cases e), fun h => by simp at h⟩
  · obtain ⟨g, c, rfl, hb, hg, hnc, hcm, _, hx⟩ := own_fshape h (by omega)
    refine ⟨_, c, rfl, hnc, hcm, (fun e => by cases e), fun _ => ⟨g, 0, rfl, hg, fun j x hj => ?_⟩⟩
    have hjl : j < es.length * 2 := by rw [← sp_flat]; exact (List.getElem?_eq_some_iff.1 hj).1
    rw [Nat.zero_add, hx j hjl, fcs, List.getElem?_map, hj]; rfl
def fzs (n : Nat) : Array Value := madeCells (Value.agg #[.int .i64 0, .int .i64 0]).cells (n * 2)
theorem fmade_run (X : World) (n : Nat) (hn : n ≤ 100000) : (Instr.makeSlice 23 (.int .i64 0) (.int .i64 (n : Int))).run Tryd.prog X = .ok (.slice (some ⟨X.heap.size, 0, none⟩) 0 n) (X.alloc (.cells (fzs n) 32)) := by
  obtain ⟨i0, hi0, hz0, hz1, hz2⟩ := info_parts Tryd.info_rspot
  have h := run_makeSlice (P := Tryd.prog) X 23 32 i0 _ Tryd.underlying23 hi0 hz0 .i64 .i64 0 (n : Int) (Int.le_refl _) (by omega) (by rw [hz1]; omega) (by rw [hz2]; omega) (by omega)
  rw [hz1] at h
  exact h
theorem fmade_own (X : World) {n : Nat} (hn : n ≤ 100000) : (X.alloc (.cells (fzs n) 32)).ownsRow X.heap.size 32 2 (.slice (some ⟨X.heap.size, 0, none⟩) 0 n) 0 [] := by
  refine ⟨rfl, .inr ⟨X.heap.size, n, fzs n, rfl, Nat.le_refl _, heap_alloc_new X _, Nat.zero_le _, Nat.le_trans hn (by decide), ?_, rfl⟩⟩
  simp [fzs, madeCells]
def e70 : En := ⟨-70, ⟨0, 0, 0, 0, 0⟩⟩
def f70 : Sp := ⟨0, -70⟩
theorem emade_heap {X : World} {g base n : Nat} (h : X.heap[g]? = some (.cells (ezs n) 30 (0, 0))) (hb : base ≤ g) (hn : n ≤ 100000) : X.ownsRow base 30 6 (.slice (some ⟨g, 0, none⟩) 0 n) 0 [] := by
  refine ⟨rfl, .inr ⟨g, n, ezs n, rfl, hb, h, Nat.zero_le _, Nat.le_trans hn (by decide), ?_, rfl⟩⟩
  simp [ezs, madeCells]
theorem fmade_heap {X : World} {g base n : Nat} (h : X.heap[g]? = some (.cells (fzs n) 32 (0, 0))) (hb : base ≤ g) (hn : n ≤ 100000) : X.ownsRow base 32 2 (.slice (some ⟨g, 0, none⟩) 0 n) 0 [] := by
  refine ⟨rfl, .inr ⟨g, n, fzs n, rfl, hb, h, Nat.zero_le _, Nat.le_trans hn (by decide), ?_, rfl⟩⟩
  simp [fzs, madeCells]
theorem es_heap {X : World} {g : Nat} {es : List En} {cs : Array Value} (h : X.heap[g]? = some (.cells cs 30 (0, 0))) (hc : cs.toList = ecs es) (hl : es.length ≤ 1000) : EsB X.heap.size X (.slice (some ⟨g, 0, none⟩) es.length es.length) es := by
  refine ⟨_, es.length, rfl, Nat.le_refl _, by unfold maxLen; omega, (fun e => by cases e), fun _ => ⟨g, 0, rfl, heap_lt h, fun j x hj => ?_⟩⟩
  rw [Nat.zero_add, Lib.cell_of_heap h, ← Array.getElem?_toList, hc, ecs, List.getElem?_map, hj]; rfl
theorem fs_heap {X : World} {g : Nat} {es : List Sp} {cs : Array Value} (h : X.heap[g]? = some (.cells cs 32 (0, 0))) (hc : cs.toList = fcs es) (hl : es.length ≤ 1000) : FdB X.heap.size X (.slice (some ⟨g, 0, none⟩) es.length es.length) es := by
  refine ⟨_, es.length, rfl, Nat.le_refl _, by unfold maxLen; omega, (fun e => by cases e), fun _ => ⟨g, 0, rfl, heap_lt h, fun j x hj => ?_⟩⟩
  rw [Nat.zero_add, Lib.cell_of_heap h, ← Array.getElem?_toList, hc, fcs, List.getElem?_map, hj]; rfl
/-- A twin of entries, with what stands behind it. -/
def TwE (base : Nat) (X : World) (g c : Nat) (es : List En) : Prop := EsB X.heap.size X (.slice (some ⟨g, 0, none⟩) es.length c) es ∧ X.cell? ⟨g, es.length * 6, none⟩ = some (.int .i64 (-70)) ∧ base ≤ g ∧ g < X.heap.size ∧ es.length + 1 ≤ c ∧ c ≤ maxLen
def TwF (base : Nat) (X : World) (g c : Nat) (es : List Sp) : Prop := FdB X.heap.size X (.slice (some ⟨g, 0, none⟩) es.length c) es ∧ X.cell? ⟨g, es.length * 2 + 1, none⟩ = some (.int .i64 (-70)) ∧ base ≤ g ∧ g < X.heap.size ∧ es.length + 1 ≤ c ∧ c ≤ maxLen
theorem TwE.below {base : Nat} {X Y : World} {g c : Nat} {es : List En} (h : TwE base X g c es) (hb : Below X.heap.size X Y) : TwE base Y g c es :=
  ⟨(RdB.below h.1 hb (Nat.le_refl _)).mono hb.size, (hb.cell (p := ⟨g, _, none⟩) h.2.2.2.1).trans h.2.1, h.2.2.1, Nat.lt_of_lt_of_le h.2.2.2.1 hb.size, h.2.2.2.2⟩
theorem TwF.below {base : Nat} {X Y : World} {g c : Nat} {es : List Sp} (h : TwF base X g c es) (hb : Below X.heap.size X Y) : TwF base Y g c es :=
  ⟨(RdB.below h.1 hb (Nat.le_refl _)).mono hb.size, (hb.cell (p := ⟨g, _, none⟩) h.2.2.2.1).trans h.2.1, h.2.2.1, Nat.lt_of_lt_of_le h.2.2.2.1 hb.size, h.2.2.2.2⟩
theorem es_cut {B : Nat} {w : World} {A : Option Addr} {n c : Nat} {es : List En} (h : EsB B w (.slice A n c) es) {i : Nat} (hi : i ≤ es.length) : EsB B w (.slice A i c) (es.take i) := by
  obtain ⟨A', c', hv, h2, h3, h4, h5⟩ := h
  injection hv with e1 _ e3
  subst e1 e3
  have hl : (es.take i).length = i := by simp [Nat.min_eq_left hi]
  refine ⟨A, c, by rw [hl], by omega, h3, fun e => ?_, fun h0 => ?_⟩
  · have := h4 e; omega
  · obtain ⟨b, o, rfl, hl', hc⟩ := h5 (by omega)
    refine ⟨b, o, rfl, hl', fun j x hj => hc j x ?_⟩
    have hf : (es.map En.l).flatten = ((es.take i).map En.l).flatten ++ ((es.drop i).map En.l).flatten := by
      rw [← List.flatten_append, ← List.map_append, List.take_append_drop]
    rw [hf, List.getElem?_append_left (List.getElem?_eq_some_iff.1 hj).1]
    exact hj
theorem fs_cut {B : Nat} {w : World} {A : Option Addr} {n c : Nat} {es : List Sp} (h : FdB B w (.slice A n c) es) {i : Nat} (hi : i ≤ es.length) : FdB B w (.slice A i c) (es.take i) := by
  obtain ⟨A', c', hv, h2, h3, h4, h5⟩ := h
  injection hv with e1 _ e3
  subst e1 e3
  have hl : (es.take i).length = i := by simp [Nat.min_eq_left hi]
  refine ⟨A, c, by rw [hl], by omega, h3, fun e => ?_, fun h0 => ?_⟩
  · have := h4 e; omega
  · obtain ⟨b, o, rfl, hl', hc⟩ := h5 (by omega)
    refine ⟨b, o, rfl, hl', fun j x hj => hc j x ?_⟩
    have hf : (es.map Sp.l).flatten = ((es.take i).map Sp.l).flatten ++ ((es.drop i).map Sp.l).flatten := by
      rw [← List.flatten_append, ← List.map_append, List.take_append_drop]
    rw [hf, List.getElem?_append_left (List.getElem?_eq_some_iff.1 hj).1]
    exact hj
theorem tw_own {w : World} {base : Nat} {v : Value} {es : List En} (h : w.ownsRow base 30 6 v (es.length + 1) (ecs es ++ ecs [e70])) (hl : es.length ≤ 90000) : ∃ g c, v = .slice (some ⟨g, 0, none⟩) (es.length + 1) c ∧ TwE base w g c es := by
  obtain ⟨g, c, rfl, hb, hg, hnc, hcm, _, hx⟩ := own_eshape h (by omega)
  have he := own_es (es := es ++ [e70]) (by rw [ecs_append]; simpa using h) (by simp; omega)
  refine ⟨g, c, rfl, by simpa using es_cut he (i := es.length) (by simp), ?_, hb, hg, hnc, hcm⟩
  rw [hx _ (by omega), List.getElem?_append_right (by rw [ecs_len]; exact Nat.le_refl _), ecs_len, Nat.sub_self]; rfl
theorem tw_ownf {w : World} {base : Nat} {v : Value} {es : List Sp} (h : w.ownsRow base 32 2 v (es.length + 1) (fcs es ++ fcs [f70])) (hl : es.length ≤ 90000) : ∃ g c, v = .slice (some ⟨g, 0, none⟩) (es.length + 1) c ∧ TwF base w g c es := by
  obtain ⟨g, c, rfl, hb, hg, hnc, hcm, _, hx⟩ := own_fshape h (by omega)
  have he := own_fs (es := es ++ [f70]) (by rw [fcs_append]; simpa using h) (by simp; omega)
  refine ⟨g, c, rfl, by simpa using fs_cut he (i := es.length) (by simp), ?_, hb, hg, hnc, hcm⟩
  rw [hx _ (by omega), List.getElem?_append_right (by rw [fcs_len]; omega), fcs_len, show es.length * 2 + 1 - es.length * 2 = 1 by omega]; rfl
theorem cell_at {X : World} {g i : Nat} {cs : Array Value} {t : TypeId} {fr : Nat × Nat} {v : Value} (h : X.heap[g]? = some (.cells cs t fr)) (hv : cs[i]? = some v) : X.cell? ⟨g, i, none⟩ = some v := by
  rw [Lib.cell_of_heap h]; exact hv
theorem keepR {X Y : World} {base n size : Nat} {t : TypeId} {v : Value} {xs : List Value} (hb : Below X.heap.size X Y) (h : X.ownsRow base t size v n xs) : Y.ownsRow base t size v n xs :=
  owns_foot h (below_foot hb : Foot (fun _ => False) X Y) fun _ _ e => e
theorem set_else {X : World} {a : Addr} {u : Value} {k : Nat} {o : Obj} (h : X.heap[k]? = some o) (hne : k ≠ a.block) : (X.setCell a u).heap[k]? = some o := (Below.heap_setCell _ _ _ _ hne).trans h
theorem cell_else {X : World} {a b : Addr} {u : Value} (hne : a.block ≠ b.block) : (X.setCell a u).cell? b = X.cell? b := World.cell?_setCell_far X a b u hne
theorem TwE.far {base : Nat} {X : World} {g c : Nat} {es : List En} {a : Addr} {u : Value} (h : TwE base X g c es) (hne : a.block < base) : TwE base (X.setCell a u) g c es := by
  obtain ⟨h1, h2, h3, h4, h5⟩ := h
  refine ⟨?_, (cell_else (by show a.block ≠ g; omega)).trans h2, h3, by simpa [World.setCell] using h4, h5⟩
  obtain ⟨A, c', hv, k1, k2, k3, k4⟩ := h1
  refine ⟨A, c', hv, k1, k2, k3, fun h0 => ?_⟩
  obtain ⟨b, o, rfl, kl, kc⟩ := k4 h0
  injection hv with e1 _ _
  injection e1 with e1
  injection e1 with e1 _ _
  exact ⟨b, o, rfl, by simpa [World.setCell] using kl, fun j x hx => (cell_else (by show a.block ≠ b; omega)).trans (kc j x hx)⟩
theorem TwF.far {base : Nat} {X : World} {g c : Nat} {es : List Sp} {a : Addr} {u : Value} (h : TwF base X g c es) (hne : a.block < base) : TwF base (X.setCell a u) g c es := by
  obtain ⟨h1, h2, h3, h4, h5⟩ := h
  refine ⟨?_, (cell_else (by show a.block ≠ g; omega)).trans h2, h3, by simpa [World.setCell] using h4, h5⟩
  obtain ⟨A, c', hv, k1, k2, k3, k4⟩ := h1
  refine ⟨A, c', hv, k1, k2, k3, fun h0 => ?_⟩
  obtain ⟨b, o, rfl, kl, kc⟩ := k4 h0
  injection hv with e1 _ _
  injection e1 with e1
  injection e1 with e1 _ _
  exact ⟨b, o, rfl, by simpa [World.setCell] using kl, fun j x hx => (cell_else (by show a.block ≠ b; omega)).trans (kc j x hx)⟩
theorem bld70_run (X : World) : (Instr.buildSlice 22 1 #[(0, .agg #[.int .i64 (-70), .int .i64 0, .int .i64 0, .int .i64 0, .int .i64 0, .int .i64 0])]).run Tryd.prog X = .ok (.slice (some ⟨X.heap.size, 0, none⟩) 1 1) (X.alloc (.cells #[.int .i64 (-70), .int .i64 0, .int .i64 0, .int .i64 0, .int .i64 0, .int .i64 0] 30)) := by kernel_rfl
theorem bld70f_run (X : World) : (Instr.buildSlice 23 1 #[(0, .agg #[.int .i64 0, .int .i64 (-70)])]).run Tryd.prog X = .ok (.slice (some ⟨X.heap.size, 0, none⟩) 1 1) (X.alloc (.cells #[.int .i64 0, .int .i64 (-70)] 32)) := by kernel_rfl
end Go.Proofs.YtkdnhfeamibmdaaDoor
