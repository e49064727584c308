/-
  Rows of records as they stand in memory; beyond of the statements.
-/
import Derived.Test.YtnbhdehpdfojlaaDoorRgApp
namespace Go.Proofs.YtnbhdehpdfojlaaDoor
open Go.RowKit Go.Sort
/-- A record as it stands in memory: what is looked at, and what stands beside it. -/
structure RcE where
  x : Rx
  st : Int
  A : Option Addr
  c : Nat
  FA : Option Addr
  fn : Nat
  fc : Nat
def RcE.cells (r : RcE) : List Value := [.int .i64 r.x.ki, .int .i64 r.st, .int .i64 r.x.ep, .int .i64 r.x.vi, .int .i64 r.x.fr, .int .i64 r.x.le, .slice r.A r.x.es.length r.c, .slice r.FA r.fn r.fc]
/-- A slice that reads as these records, in blocks below B. -/
def RcsB (B : Nat) (w : World) (v : Value) (l : List RcE) : Prop :=
  ∃ A c, v = .slice A l.length c ∧ l.length ≤ c ∧ c ≤ maxLen ∧ (A = none → l.length = 0 ∧ c = 0) ∧
    (0 < l.length → ∃ b o, A = some ⟨b, o, none⟩ ∧ b < B ∧ ∀ k, (hk : k < l.length) → ∀ j u, l[k].cells[j]? = some u → w.cell? ⟨b, o + k * 8 + j, none⟩ = some u) ∧
    ∀ r ∈ l, EsB B w (.slice r.A r.x.es.length r.c) r.x.es
theorem RcsB.len {B : Nat} {w : World} {A : Option Addr} {n c : Nat} {l : List RcE} (h : RcsB B w (.slice A n c) l) : n = l.length ∧ l.length ≤ c ∧ c ≤ maxLen := by
  obtain ⟨A', c', hv, h1, h2, -⟩ := h
  injection hv with e1 e2 e3
  subst e1 e3
  exact ⟨e2, h1, h2⟩
theorem RcsB.keep {w w' : World} {v : Value} {l : List RcE} (hb : Below w.heap.size w w') (h : RcsB w.heap.size w v l) : RcsB w'.heap.size w' v l := by
  obtain ⟨A, c, h1, h2, h3, h4, h5, h6⟩ := h
  refine ⟨A, c, h1, h2, h3, h4, fun h0 => ?_, fun r hr => keepE hb (h6 r hr)⟩
  obtain ⟨b, o, rfl, hl, hc⟩ := h5 h0
  exact ⟨b, o, rfl, Nat.lt_of_lt_of_le hl hb.size, fun k hk j u hu => (hb.cell (p := ⟨b, o + k * 8 + j, none⟩) hl).trans (hc k hk j u hu)⟩
/-- Records stay, whatever is written into a box of fewer cells than an entry has. -/
theorem RcsB.store {X Y : World} {v : Value} {l : List RcE} {g : Nat} {old : Array Value} {t : TypeId} {fr : Nat × Nat} (h : RcsB X.heap.size X v l) (hg : X.heap[g]? = some (.cells old t fr)) (ho : old.size < 6) (hs : ∀ k, k ≠ g → Y.heap[k]? = X.heap[k]?) (hz : Y.heap.size = X.heap.size) : RcsB Y.heap.size Y v l := by
  obtain ⟨A, c, h1, h2, h3, h4, h5, h6⟩ := h
  refine ⟨A, c, h1, h2, h3, h4, fun h0 => ?_, fun r hr => es_store (h6 r hr) hg ho hs hz⟩
  obtain ⟨b, o, rfl, hl, hc⟩ := h5 h0
  have hne : b ≠ g := fun e => by
    subst e
    have := hc 0 h0 7 _ rfl
    rw [Lib.cell_of_heap hg] at this
    have := (Array.getElem?_eq_some_iff.1 this).1
    omega
  exact ⟨b, o, rfl, by omega, fun k hk j u hu => (cell_heap (hs b hne)).trans (hc k hk j u hu)⟩
theorem Tryd.info_rec : (Tryd.prog.info? 27).map (fun i => (i.zero, i.size, i.bytes)) = some (some (.agg #[.int .i64 0, .int .i64 0, .int .i64 0, .int .i64 0, .int .i64 0, .int .i64 0, .slice none 0 0, .slice none 0 0]), 8, 96) := by kernel_rfl
/-- A record loaded whole, wherever it stands. -/
theorem run_load_rec {W : World} {g o : Nat} {l : List Value} (hl8 : l.length = 8) (hc : ∀ j u, l[j]? = some u → W.cell? ⟨g, o + j, none⟩ = some u) : (loadVar 27 ⟨g, o, none⟩).run Tryd.prog W = .ok (.agg l.toArray) W := by
  have hl := run_loadCells_list (P := Tryd.prog) W ⟨g, o, none⟩ l (fun j u hu => by rw [Addr.add_lit]; exact hc j u hu)
  have hagg : (isAgg 27).run Tryd.prog W = .ok true W := by
    unfold isAgg
    rw [Sem.run_bind, run_underlying Tryd.underlying27 W]
    rfl
  obtain ⟨i0, hi, hz0, hz1, hz2⟩ := info_parts Tryd.info_rec
  rw [hl8] at hl
  simp [loadVar, Sem.run_bind, hagg, sizeOf, typeInfo, hi, hz1, hl]
/-- What is known of one record of a row. -/
theorem RcsB.at_ {w : World} {A : Option Addr} {n c : Nat} {l : List RcE} (h : RcsB w.heap.size w (.slice A n c) l) {k : Nat} (hk : k < l.length) : ∃ b o, A = some ⟨b, o, none⟩ ∧ b < w.heap.size ∧
    (∀ X : World, Below w.heap.size w X → (loadVar 27 ⟨b, o + k * 8, none⟩).run Tryd.prog X = .ok (.agg l[k].cells.toArray) X) ∧
    (∀ X : World, Below w.heap.size w X → EsB X.heap.size X (.slice l[k].A l[k].x.es.length l[k].c) l[k].x.es) ∧
    w.cell? ⟨b, o + k * 8 + 6, none⟩ = some (.slice l[k].A l[k].x.es.length l[k].c) := by
  obtain ⟨A', c', hv, h2, h3, h4, h5, h6⟩ := h
  injection hv with e1 e2 e3
  subst e1 e3
  obtain ⟨b, o, rfl, hl, hc⟩ := h5 (by omega)
  exact ⟨b, o, rfl, hl, fun X hX => run_load_rec rfl fun j u hu => (hX.cell (p := ⟨b, o + k * 8 + j, none⟩) hl).trans (hc k hk j u hu), fun X hX => keepE hX (h6 _ (List.getElem_mem hk)), hc k hk 6 _ rfl⟩
/-- More than is looked at. -/
def beyB (l : List RcE) : Bool := decide (60 < l.length) || l.any fun r => decide (100 < r.x.es.length)
theorem beyB_long {l : List RcE} (h : 60 < l.length) : beyB l = true := by simp [beyB, h]
theorem beyB_at {l : List RcE} {k : Nat} (hk : k < l.length) (h : 100 < l[k].x.es.length) : beyB l = true := by
  have : l.any (fun r => decide (100 < r.x.es.length)) = true := List.any_eq_true.2 ⟨_, List.getElem_mem hk, by simpa using h⟩
  simp [beyB, this]
theorem beyB_not {l : List RcE} (h0 : ¬ 60 < l.length) (h : ∀ k (hk : k < l.length), ¬ 100 < l[k].x.es.length) : beyB l = false := by
  rw [← Bool.not_eq_true]
  intro hc
  simp only [beyB, Bool.or_eq_true, decide_eq_true_eq, List.any_eq_true] at hc
  rcases hc with hc | ⟨r, hr, hc⟩
  · exact h0 hc
  · obtain ⟨k, hk, rfl⟩ := List.getElem_of_mem hr
    exact h k hk hc
theorem beyB_no {l : List RcE} (h : beyB l = false) : l.length ≤ 60 ∧ ∀ k (hk : k < l.length), l[k].x.es.length ≤ 100 := by
  refine ⟨?_, fun k hk => ?_⟩
  · rcases Nat.lt_or_ge 60 l.length with h1 | h1
    · rw [beyB_long h1] at h; cases h
    · exact h1
  · rcases Nat.lt_or_ge 100 l[k].x.es.length with h1 | h1
    · rw [beyB_at hk h1] at h; cases h
    · exact h1
set_option maxRecDepth 100000 in
set_option maxHeartbeats 1000000 in
theorem beyond_any {A : Option Addr} {c : Nat} {l : List RcE} {w : World} (h : RcsB w.heap.size w (.slice A l.length c) l) : Calls Tryd.prog 17 #[.slice A l.length c] w (NumPost (.bool (beyB l)) w) := by
  have HAT := Lib.hid (fun k (hk : k < l.length) => h.at_ hk)
  have hln := h.len
  have hl : l.length ≤ maxLen := by omega
  unfold maxLen at hl
  have hlc := hln.2.1
  clear h hln
  by_cases h60 : 60 < l.length
  · have t0 : decide ((60 : Int) < (l.length : Int)) = true := decide_eq_true (by omega)
    rw [beyB_long h60]
    clear HAT
    go_enter Tryd.func17, Tryd.ntmps17
    go_wp2_with fail
    go_ret
    exact ⟨rfl, Below.refl _ _⟩
  have t0 : decide ((60 : Int) < (l.length : Int)) = false := decide_eq_false (by omega)
  go_enter Tryd.func17, Tryd.ntmps17
  go_wp2_with fail
  clear t0
  go_loopw [2, 3] (fun r i wr => ∃ k : Nat, k ≤ l.length ∧ r = .bool false ∧ i = .int .i64 k ∧ Hid (∀ j (hj : j < l.length), j < k → ¬ 100 < l[j].x.es.length) ∧ wr = w) (fun _ i _ => l.length - (intOf i).toNat)
  case atStart => exact ⟨0, Nat.zero_le _, rfl, rfl, Lib.hid fun j hj h => by omega, rfl⟩
  case round =>
    obtain ⟨k, hk, rfl, rfl, hup, rfl⟩ := hrel
    by_cases hlt : k < l.length
    · obtain ⟨b1, o1, rfl, -, -, -, x6⟩ := HAT.out k hlt
      have hii : (k : Int) < (l.length : Int) := by omega
      by_cases q : 100 < l[k].x.es.length
      · have hb := Lib.hid (beyB_at hlt q)
        have t1 : decide ((100 : Int) < (l[k].x.es.length : Int)) = true := decide_eq_true (by omega)
        clear HAT hup q
        generalize l[k].x.es.length = n at *
        generalize l[k].A = RA at *
        generalize l[k].c = rc at *
        go_wp2_with fail
        go_ret
        exact ⟨ret_bool hb.out.symm, Below.refl _ _⟩
      · have t1 : decide ((100 : Int) < (l[k].x.es.length : Int)) = false := decide_eq_false (by omega)
        have hn : Hid (∀ j (hj : j < l.length), j < k + 1 → ¬ 100 < l[j].x.es.length) := Lib.hid fun j hj hjk => by
          by_cases e : j = k
          · subst e; exact q
          · exact hup.out j hj (by omega)
        clear HAT hup q
        generalize l[k].x.es.length = n at *
        generalize l[k].A = RA at *
        generalize l[k].c = rc at *
        go_wp2_with fail
        go_roundw
        case rel => exact ⟨k + 1, by omega, rfl, by go_num, hn, by trivial⟩
        case measure => simp [intOf]; omega
    · obtain rfl : k = l.length := by omega
      have hb := Lib.hid (beyB_not h60 (fun k hk => hup.out k hk hk))
      clear HAT hup
      have hii : ¬ (l.length : Int) < (l.length : Int) := by omega
      go_wp2_with fail
      go_ret
      exact ⟨ret_bool hb.out.symm, Below.refl _ _⟩
end Go.Proofs.YtnbhdehpdfojlaaDoor
