/-
  Ways of the law RecordsBare: what may not be, and a number more.
-/
import Derived.Test.YtcbeommmacnkgaaDoorRcWorks
namespace Go.Proofs.YtcbeommmacnkgaaDoor.recordsBareW
open Go.RowKit
theorem nums_of {r : Rec} (h : r.may = true) : numsM r.ki r.st r.ep r.vi r.fr r.le r.es.length r.fd.length := by
  unfold Rec.may at h
  rw [Bool.and_eq_true] at h
  exact of_decide_eq_true h.1
theorem fds_of {r : Rec} (h : r.may = true) : r.fd.all Sp.may = true := by
  unfold Rec.may at h
  rw [Bool.and_eq_true, Bool.and_eq_true] at h
  exact h.2.2
/-- The common beginning of the ways. -/
structure In (r : Rec) (A A' : Option Addr) (c c' : Nat) (w : World) : Prop where
  ask : AskR w
  es : EsB w.heap.size w (.slice A r.es.length c) r.es
  fd : FdB w.heap.size w (.slice A' r.fd.length c') r.fd
theorem In.lens {r : Rec} {A A' : Option Addr} {c c' : Nat} {w : World} (h : In r A A' c c' w) : r.es.length ≤ 9223372036854775807 ∧ r.fd.length ≤ 9223372036854775807 := by
  obtain ⟨_, _, _, h1, h2, -⟩ := h.es.len
  obtain ⟨_, _, _, k1, k2, -⟩ := h.fd.len
  unfold maxLen at h2 k2
  omega
theorem In.works {r : Rec} {A A' : Option Addr} {c c' : Nat} {w : World} (h : In r A A' c c' w) : Hid (∀ X, Below w.heap.size w X → Calls Tryd.prog 15 #[] X (NumPost (.bool true) X)) := fun _ hX => recWorks_any (h.ask.keep hX)
/-- Check at a world behind, of any record with these lists. -/
theorem In.check {r : Rec} {A A' : Option Addr} {c c' : Nat} {w : World} (h : In r A A' c c' w) (hn : r.es.length ≤ 500) (hm : r.fd.length ≤ 1000) : Hid (∀ X, Below w.heap.size w X → ∀ (q : Rec), q.es = r.es → q.fd = r.fd →
    Calls Tryd.prog 12 #[q.v (.slice A r.es.length c) (.slice A' r.fd.length c')] X (NumPost (.int .i64 q.err) X)) := fun _ hX q h1 h2 => by
  refine recCheck_any q (h.ask.keep hX) ?_ ?_ (by rw [h1]; omega) (by rw [h2]; omega)
  · rw [h1]; exact RdB.mono (RdB.below h.es hX (Nat.le_refl _)) hX.size
  · rw [h2]; exact RdB.mono (RdB.below h.fd hX (Nat.le_refl _)) hX.size
theorem bare_ep {r : Rec} {n : Int} (h : r.may = true) (hn : n ≠ 0) (hk : (decide (r.ki = 1) || decide (r.ki = 2) || decide (r.ki = 4)) = false) : ({ r with ep := n } : Rec).err = 2 := by
  have hk' := hk
  simp at hk'
  have h1 := nums_of h
  unfold Rec.err
  rw [if_neg]
  intro h2
  have h3 := nums_of h2
  dsimp only at h3
  unfold numsM at h1 h3
  omega
theorem bare_vi {r : Rec} {n : Int} (h : r.may = true) (hn : n ≠ 0) (hk : (decide (r.ki = 4)) = false) : ({ r with vi := n } : Rec).err = 2 := by
  have hk' := hk
  simp at hk'
  have h1 := nums_of h
  unfold Rec.err
  rw [if_neg]
  intro h2
  have h3 := nums_of h2
  dsimp only at h3
  unfold numsM at h1 h3
  omega
theorem bare_fr {r : Rec} {n : Int} (h : r.may = true) (hn : n ≠ 0) (hk : (decide (r.ki = 2)) = false) : ({ r with fr := n } : Rec).err = 2 := by
  have hk' := hk
  simp at hk'
  have h1 := nums_of h
  unfold Rec.err
  rw [if_neg]
  intro h2
  have h3 := nums_of h2
  dsimp only at h3
  unfold numsM at h1 h3
  omega
theorem bare_le {r : Rec} {n : Int} (h : r.may = true) (hn : n ≠ 0) (hk : (decide (r.ki = 3) || decide (r.ki = 4)) = false) : ({ r with le := n } : Rec).err = 2 := by
  have hk' := hk
  simp at hk'
  have h1 := nums_of h
  unfold Rec.err
  rw [if_neg]
  intro h2
  have h3 := nums_of h2
  dsimp only at h3
  unfold numsM at h1 h3
  omega
theorem bare_fd {r : Rec} (h : r.may = true) (hk : r.ki ≠ 5) : ({ r with fd := [⟨0, 0⟩] } : Rec).err = 2 := by
  have h1 := nums_of h
  unfold Rec.err
  rw [if_neg]
  intro h2
  have h3 := nums_of h2
  dsimp only at h3
  unfold numsM at h1 h3
  simp only [List.length_cons, List.length_nil] at h3
  omega
theorem bare_es {r : Rec} (h : r.may = true) : ({ r with es := [⟨1, ⟨1, r.st, 0, 1, 0⟩⟩] } : Rec).err = if (decide (r.ki = 2) && decide (r.fr < 64)) || (decide (r.ki = 4) && decide (r.le ≤ 1)) then 0 else 2 := by
  have h1 := nums_of h
  have h3 := fds_of h
  have hm : ({ r with es := [⟨1, ⟨1, r.st, 0, 1, 0⟩⟩] } : Rec).may = ((decide (r.ki = 2) && decide (r.fr < 64)) || (decide (r.ki = 4) && decide (r.le ≤ 1))) := by
    rw [Bool.eq_iff_iff]
    constructor
    · intro h4
      have h5 := nums_of h4
      clear h1 h3
      dsimp only at h5
      unfold numsM at h5
      simp only [List.length_cons, List.length_nil] at h5
      simp only [Bool.or_eq_true, Bool.and_eq_true, decide_eq_true_eq]
      rcases h5 with h5 | h5 | h5 | h5 | h5 <;> omega
    · intro h4
      simp only [Bool.or_eq_true, Bool.and_eq_true, decide_eq_true_eq] at h4
      unfold numsM at h1
      unfold Rec.may Rec.nums
      dsimp only
      rw [Bool.and_eq_true, Bool.and_eq_true, decide_eq_true_eq]
      refine ⟨?_, ?_, h3⟩
      · unfold numsM
        simp only [List.length_cons, List.length_nil]
        rcases h4 with ⟨h4, h5⟩ | ⟨h4, h5⟩
        · refine .inr (.inl ?_)
          rcases h1 with h1 | h1 | h1 | h1 | h1 <;> omega
        · refine .inr (.inr (.inr (.inl ?_)))
          rcases h1 with h1 | h1 | h1 | h1 | h1 <;> omega
      · simp only [List.all_cons, List.all_nil, Bool.and_true, En.may, Od.may, Bool.and_eq_true, decide_eq_true_eq]
        have hst : 0 ≤ r.st ∧ r.st ≤ 3 := by rcases h1 with h1 | h1 | h1 | h1 | h1 <;> omega
        exact ⟨by omega, trivial, by omega⟩
  unfold Rec.err
  rw [hm]
def Says (r : Rec) (A A' : Option Addr) (c c' : Nat) (q : Nat) (n : Int) (w : World) : Prop :=
  Calls Tryd.prog 7 #[.agg #[.int .i64 r.ki, .int .i64 r.st, .int .i64 r.ep, .int .i64 r.vi, .int .i64 r.fr, .int .i64 r.le, .slice A r.es.length c, .slice A' r.fd.length c'], .int .u8 (q : Nat), .int .i64 n] w fun e w' => e = .returned (.bool true) ∧ Below w.heap.size w w'
set_option maxRecDepth 100000 in
set_option maxHeartbeats 4000000 in
theorem way_not (r : Rec) (A A' : Option Addr) (c c' q : Nat) (n : Int) (w : World) (h : In r A A' c c' w) (hno : (decide (500 < r.es.length) || decide (1000 < r.fd.length)) = true ∨ r.may = false ∨ n = 0) : Says r A A' c c' q n w := by
  unfold Says
  have hl := h.lens
  have hb0 : Below w.heap.size w (w.alloc (.cells #[.int .i64 r.ki, .int .i64 r.st, .int .i64 r.ep, .int .i64 r.vi, .int .i64 r.fr, .int .i64 r.le, .slice A r.es.length c, .slice A' r.fd.length c'] 25)) := (Below.refl _ _).alloc (Nat.le_refl _) _
  have B0 : (w.alloc (.cells #[.int .i64 r.ki, .int .i64 r.st, .int .i64 r.ep, .int .i64 r.vi, .int .i64 r.fr, .int .i64 r.le, .slice A r.es.length c, .slice A' r.fd.length c'] 25)).heap[w.heap.size]? = some (.cells #[.int .i64 r.ki, .int .i64 r.st, .int .i64 r.ep, .int .i64 r.vi, .int .i64 r.fr, .int .i64 r.le, .slice A r.es.length c, .slice A' r.fd.length c'] 25 (0, 0)) := heap_alloc_new _ _
  have HG := Lib.hid (fun X => great_any r.ki r.st r.ep r.vi r.fr r.le r.es.length r.fd.length c c' A A' X hl.1 hl.2)
  have HW := h.works
  have HB0 := Lib.hid hb0
  have HX0 := Lib.hid B0
  rcases hgr : (decide (500 < r.es.length) || decide (1000 < r.fd.length)) with _ | _
  · have hgr2 := hgr
    simp only [Bool.or_eq_false_iff, decide_eq_false_iff_not] at hgr2
    have HC := Lib.hid (fun X hX => (h.check (by omega) (by omega)).out X hX r rfl rfl)
    have HM : Hid (r.err = if r.may then 0 else 2) := rfl
    have HNO : Hid (r.may = false ∨ n = 0) := by rcases hno with h' | h'; · rw [hgr] at h'; cases h'
                                                 · exact h'
    rw [hgr] at HG
    clear h hb0 B0 hgr hgr2 hno
    generalize r.err = er at *
    generalize r.may = my at *
    obtain ⟨ki, st, ep, vi, fr, le, es, fd⟩ := r
    dsimp only [Rec.v] at *
    go_enter Tryd.func7, Tryd.ntmps7
    go_wp2_with fail
    refine (HG.out _).mono ?_
    rintro e w1 ⟨rfl, hb1⟩
    have HB1 := Lib.hid (HB0.out.trans (hb1.mono HB0.out.size))
    have hX1 := (hb1.block w.heap.size (by simp)).trans HX0.out
    have c0 : w1.cell? ⟨w.heap.size, 0, none⟩ = some (.int .i64 ki) := by rw [Lib.cell_of_heap hX1]; rfl
    have c1 : w1.cell? ⟨w.heap.size, 1, none⟩ = some (.int .i64 st) := by rw [Lib.cell_of_heap hX1]; rfl
    have c2 : w1.cell? ⟨w.heap.size, 2, none⟩ = some (.int .i64 ep) := by rw [Lib.cell_of_heap hX1]; rfl
    have c3 : w1.cell? ⟨w.heap.size, 3, none⟩ = some (.int .i64 vi) := by rw [Lib.cell_of_heap hX1]; rfl
    have c4 : w1.cell? ⟨w.heap.size, 4, none⟩ = some (.int .i64 fr) := by rw [Lib.cell_of_heap hX1]; rfl
    have c5 : w1.cell? ⟨w.heap.size, 5, none⟩ = some (.int .i64 le) := by rw [Lib.cell_of_heap hX1]; rfl
    have c6 : w1.cell? ⟨w.heap.size, 6, none⟩ = some (.slice A es.length c) := by rw [Lib.cell_of_heap hX1]; rfl
    have c7 : w1.cell? ⟨w.heap.size, 7, none⟩ = some (.slice A' fd.length c') := by rw [Lib.cell_of_heap hX1]; rfl
    clear hb1 hX1
    go_wp2_with fail
    refine (HC.out _ HB1.out).mono ?_
    rintro e w2 ⟨rfl, hb2⟩
    have HB2 := Lib.hid (HB1.out.trans (hb2.mono HB1.out.size))
    clear hb2 c0 c1 c2 c3 c4 c5 c6 c7
    cases my
    · obtain rfl := HM.out
      go_wp2_with fail
      refine (HW.out _ HB2.out).mono ?_
      rintro e w3 ⟨rfl, hb3⟩
      have HB3 := Lib.hid (HB2.out.trans (hb3.mono HB2.out.size))
      clear hb3
      go_wp2_with fail
      go_ret
      exact ⟨rfl, HB3.out⟩
    · obtain rfl := HM.out
      obtain rfl : n = 0 := by rcases HNO.out with h' | h'; · cases h'
                               · exact h'
      go_wp2_with fail
      refine (HW.out _ HB2.out).mono ?_
      rintro e w3 ⟨rfl, hb3⟩
      have HB3 := Lib.hid (HB2.out.trans (hb3.mono HB2.out.size))
      clear hb3
      go_wp2_with fail
      go_ret
      exact ⟨rfl, HB3.out⟩
  · rw [hgr] at HG
    clear h hb0 B0 hgr hno
    obtain ⟨ki, st, ep, vi, fr, le, es, fd⟩ := r
    dsimp only [Rec.v] at *
    go_enter Tryd.func7, Tryd.ntmps7
    go_wp2_with fail
    refine (HG.out _).mono ?_
    rintro e w1 ⟨rfl, hb1⟩
    have HB1 := Lib.hid (HB0.out.trans (hb1.mono HB0.out.size))
    clear hb1
    go_wp2_with fail
    refine (HW.out _ HB1.out).mono ?_
    rintro e w3 ⟨rfl, hb3⟩
    have HB3 := Lib.hid (HB1.out.trans (hb3.mono HB1.out.size))
    clear hb3
    go_wp2_with fail
    go_ret
    exact ⟨rfl, HB3.out⟩
set_option maxRecDepth 100000 in
set_option maxHeartbeats 4000000 in
theorem way_0 (r : Rec) (A A' : Option Addr) (c c' q : Nat) (n : Int) (w : World) (h : In r A A' c c' w) (hgr : (decide (500 < r.es.length) || decide (1000 < r.fd.length)) = false) (hmay : r.may = true) (hn0 : n ≠ 0) (hq : q % 6 = 0) : Says r A A' c c' q n w := by
  unfold Says
  have hl := h.lens
  have hb0 : Below w.heap.size w (w.alloc (.cells #[.int .i64 r.ki, .int .i64 r.st, .int .i64 r.ep, .int .i64 r.vi, .int .i64 r.fr, .int .i64 r.le, .slice A r.es.length c, .slice A' r.fd.length c'] 25)) := (Below.refl _ _).alloc (Nat.le_refl _) _
  have B0 : (w.alloc (.cells #[.int .i64 r.ki, .int .i64 r.st, .int .i64 r.ep, .int .i64 r.vi, .int .i64 r.fr, .int .i64 r.le, .slice A r.es.length c, .slice A' r.fd.length c'] 25)).heap[w.heap.size]? = some (.cells #[.int .i64 r.ki, .int .i64 r.st, .int .i64 r.ep, .int .i64 r.vi, .int .i64 r.fr, .int .i64 r.le, .slice A r.es.length c, .slice A' r.fd.length c'] 25 (0, 0)) := heap_alloc_new _ _
  have HG := Lib.hid (fun X => great_any r.ki r.st r.ep r.vi r.fr r.le r.es.length r.fd.length c c' A A' X hl.1 hl.2)
  have HW := h.works
  have HB0 := Lib.hid hb0
  have HX0 := Lib.hid B0
  have hgr2 := hgr
  simp only [Bool.or_eq_false_iff, decide_eq_false_iff_not] at hgr2
  have HC := Lib.hid (fun X hX => (h.check (by omega) (by omega)).out X hX r rfl rfl)
  have HC2 := Lib.hid (fun X hX => (h.check (by omega) (by omega)).out X hX ({ r with ep := n } : Rec) rfl rfl)
  have HBR := Lib.hid (fun hk => bare_ep (n := n) hmay hn0 hk)
  have he : r.err = 0 := by unfold Rec.err; rw [hmay]; rfl
  rw [he] at HC
  have tn : decide (n = 0) = false := decide_eq_false hn0
  have tq : ((q : Int) % 6) = 0 := by omega
  rw [hgr] at HG
  clear h hb0 B0 hgr hgr2 he hmay
  obtain ⟨er2, her2⟩ : ∃ e, Hid (({ r with ep := n } : Rec).err = e) := ⟨_, Lib.hid rfl⟩
  rw [her2.out] at HC2 HBR
  obtain ⟨ki, st, ep, vi, fr, le, es, fd⟩ := r
  dsimp only [Rec.v] at *
  go_enter Tryd.func7, Tryd.ntmps7
  go_wp2_with fail
  refine (HG.out _).mono ?_
  rintro e w1 ⟨rfl, hb1⟩
  have HB1 := Lib.hid (HB0.out.trans (hb1.mono HB0.out.size))
  have hX1 := (hb1.block w.heap.size (by simp)).trans HX0.out
  have hz1 : w.heap.size < w1.heap.size := by have := hb1.size; simp at this; omega
  have c0 : w1.cell? ⟨w.heap.size, 0, none⟩ = some (.int .i64 ki) := by rw [Lib.cell_of_heap hX1]; rfl
  have c1 : w1.cell? ⟨w.heap.size, 1, none⟩ = some (.int .i64 st) := by rw [Lib.cell_of_heap hX1]; rfl
  have c2 : w1.cell? ⟨w.heap.size, 2, none⟩ = some (.int .i64 ep) := by rw [Lib.cell_of_heap hX1]; rfl
  have c3 : w1.cell? ⟨w.heap.size, 3, none⟩ = some (.int .i64 vi) := by rw [Lib.cell_of_heap hX1]; rfl
  have c4 : w1.cell? ⟨w.heap.size, 4, none⟩ = some (.int .i64 fr) := by rw [Lib.cell_of_heap hX1]; rfl
  have c5 : w1.cell? ⟨w.heap.size, 5, none⟩ = some (.int .i64 le) := by rw [Lib.cell_of_heap hX1]; rfl
  have c6 : w1.cell? ⟨w.heap.size, 6, none⟩ = some (.slice A es.length c) := by rw [Lib.cell_of_heap hX1]; rfl
  have c7 : w1.cell? ⟨w.heap.size, 7, none⟩ = some (.slice A' fd.length c') := by rw [Lib.cell_of_heap hX1]; rfl
  have HX1 := Lib.hid hX1
  clear hb1 hX1
  go_wp2_with fail
  refine (HC.out _ HB1.out).mono ?_
  rintro e w2 ⟨rfl, hb2⟩
  have HB2 := Lib.hid (HB1.out.trans (hb2.mono HB1.out.size))
  have hX2 := (hb2.block w.heap.size hz1).trans HX1.out
  clear c0 c1 c2 c3 c4 c5 c6 c7
  have c0 : w2.cell? ⟨w.heap.size, 0, none⟩ = some (.int .i64 ki) := by rw [Lib.cell_of_heap hX2]; rfl
  have c1 : w2.cell? ⟨w.heap.size, 1, none⟩ = some (.int .i64 st) := by rw [Lib.cell_of_heap hX2]; rfl
  have c2 : w2.cell? ⟨w.heap.size, 2, none⟩ = some (.int .i64 ep) := by rw [Lib.cell_of_heap hX2]; rfl
  have c3 : w2.cell? ⟨w.heap.size, 3, none⟩ = some (.int .i64 vi) := by rw [Lib.cell_of_heap hX2]; rfl
  have c4 : w2.cell? ⟨w.heap.size, 4, none⟩ = some (.int .i64 fr) := by rw [Lib.cell_of_heap hX2]; rfl
  have c5 : w2.cell? ⟨w.heap.size, 5, none⟩ = some (.int .i64 le) := by rw [Lib.cell_of_heap hX2]; rfl
  have c6 : w2.cell? ⟨w.heap.size, 6, none⟩ = some (.slice A es.length c) := by rw [Lib.cell_of_heap hX2]; rfl
  have c7 : w2.cell? ⟨w.heap.size, 7, none⟩ = some (.slice A' fd.length c') := by rw [Lib.cell_of_heap hX2]; rfl
  have HBX := Lib.hid ((HB2.out.alloc HB2.out.size (.cells #[.int .i64 ki, .int .i64 st, .int .i64 n, .int .i64 vi, .int .i64 fr, .int .i64 le, .slice A es.length c, .slice A' fd.length c'] 25)))
  clear hb2 hX2
  by_cases k0 : ki = 1
  · have t0 : decide (ki = 1) = true := decide_eq_true k0
    subst k0
    go_wp2_with fail
    refine (HW.out _ HBX.out).mono ?_
    rintro e w3 ⟨rfl, hb3⟩
    have HB3 := Lib.hid (HBX.out.trans (hb3.mono HBX.out.size))
    clear hb3
    go_wp2_with fail
    go_ret
    exact ⟨rfl, HB3.out⟩
  have t0 : decide (ki = 1) = false := decide_eq_false k0
  by_cases k1 : ki = 2
  · have t1 : decide (ki = 2) = true := decide_eq_true k1
    subst k1
    go_wp2_with fail
    refine (HW.out _ HBX.out).mono ?_
    rintro e w3 ⟨rfl, hb3⟩
    have HB3 := Lib.hid (HBX.out.trans (hb3.mono HBX.out.size))
    clear hb3
    go_wp2_with fail
    go_ret
    exact ⟨rfl, HB3.out⟩
  have t1 : decide (ki = 2) = false := decide_eq_false k1
  by_cases k2 : ki = 4
  · have t2 : decide (ki = 4) = true := decide_eq_true k2
    subst k2
    go_wp2_with fail
    refine (HW.out _ HBX.out).mono ?_
    rintro e w3 ⟨rfl, hb3⟩
    have HB3 := Lib.hid (HBX.out.trans (hb3.mono HBX.out.size))
    clear hb3
    go_wp2_with fail
    go_ret
    exact ⟨rfl, HB3.out⟩
  have t2 : decide (ki = 4) = false := decide_eq_false k2
  obtain rfl := HBR.out (by rw [t0, t1, t2]; rfl)
  go_wp2_with fail
  refine (HC2.out _ HBX.out).mono ?_
  rintro e w3 ⟨rfl, hb3⟩
  have HB3 := Lib.hid (HBX.out.trans (hb3.mono HBX.out.size))
  clear hb3
  go_wp2_with fail
  refine (HW.out _ HB3.out).mono ?_
  rintro e w4 ⟨rfl, hb4⟩
  have HB4 := Lib.hid (HB3.out.trans (hb4.mono HB3.out.size))
  clear hb4
  go_wp2_with fail
  go_ret
  exact ⟨rfl, HB4.out⟩
set_option maxRecDepth 100000 in
set_option maxHeartbeats 4000000 in
theorem way_1 (r : Rec) (A A' : Option Addr) (c c' q : Nat) (n : Int) (w : World) (h : In r A A' c c' w) (hgr : (decide (500 < r.es.length) || decide (1000 < r.fd.length)) = false) (hmay : r.may = true) (hn0 : n ≠ 0) (hq : q % 6 = 1) : Says r A A' c c' q n w := by
  unfold Says
  have hl := h.lens
  have hb0 : Below w.heap.size w (w.alloc (.cells #[.int .i64 r.ki, .int .i64 r.st, .int .i64 r.ep, .int .i64 r.vi, .int .i64 r.fr, .int .i64 r.le, .slice A r.es.length c, .slice A' r.fd.length c'] 25)) := (Below.refl _ _).alloc (Nat.le_refl _) _
  have B0 : (w.alloc (.cells #[.int .i64 r.ki, .int .i64 r.st, .int .i64 r.ep, .int .i64 r.vi, .int .i64 r.fr, .int .i64 r.le, .slice A r.es.length c, .slice A' r.fd.length c'] 25)).heap[w.heap.size]? = some (.cells #[.int .i64 r.ki, .int .i64 r.st, .int .i64 r.ep, .int .i64 r.vi, .int .i64 r.fr, .int .i64 r.le, .slice A r.es.length c, .slice A' r.fd.length c'] 25 (0, 0)) := heap_alloc_new _ _
  have HG := Lib.hid (fun X => great_any r.ki r.st r.ep r.vi r.fr r.le r.es.length r.fd.length c c' A A' X hl.1 hl.2)
  have HW := h.works
  have HB0 := Lib.hid hb0
  have HX0 := Lib.hid B0
  have hgr2 := hgr
  simp only [Bool.or_eq_false_iff, decide_eq_false_iff_not] at hgr2
  have HC := Lib.hid (fun X hX => (h.check (by omega) (by omega)).out X hX r rfl rfl)
  have HC2 := Lib.hid (fun X hX => (h.check (by omega) (by omega)).out X hX ({ r with vi := n } : Rec) rfl rfl)
  have HBR := Lib.hid (fun hk => bare_vi (n := n) hmay hn0 hk)
  have he : r.err = 0 := by unfold Rec.err; rw [hmay]; rfl
  rw [he] at HC
  have tn : decide (n = 0) = false := decide_eq_false hn0
  have tq : ((q : Int) % 6) = 1 := by omega
  rw [hgr] at HG
  clear h hb0 B0 hgr hgr2 he hmay
  obtain ⟨er2, her2⟩ : ∃ e, Hid (({ r with vi := n } : Rec).err = e) := ⟨_, Lib.hid rfl⟩
  rw [her2.out] at HC2 HBR
  obtain ⟨ki, st, ep, vi, fr, le, es, fd⟩ := r
  dsimp only [Rec.v] at *
  go_enter Tryd.func7, Tryd.ntmps7
  go_wp2_with fail
  refine (HG.out _).mono ?_
  rintro e w1 ⟨rfl, hb1⟩
  have HB1 := Lib.hid (HB0.out.trans (hb1.mono HB0.out.size))
  have hX1 := (hb1.block w.heap.size (by simp)).trans HX0.out
  have hz1 : w.heap.size < w1.heap.size := by have := hb1.size; simp at this; omega
  have c0 : w1.cell? ⟨w.heap.size, 0, none⟩ = some (.int .i64 ki) := by rw [Lib.cell_of_heap hX1]; rfl
  have c1 : w1.cell? ⟨w.heap.size, 1, none⟩ = some (.int .i64 st) := by rw [Lib.cell_of_heap hX1]; rfl
  have c2 : w1.cell? ⟨w.heap.size, 2, none⟩ = some (.int .i64 ep) := by rw [Lib.cell_of_heap hX1]; rfl
  have c3 : w1.cell? ⟨w.heap.size, 3, none⟩ = some (.int .i64 vi) := by rw [Lib.cell_of_heap hX1]; rfl
  have c4 : w1.cell? ⟨w.heap.size, 4, none⟩ = some (.int .i64 fr) := by rw [Lib.cell_of_heap hX1]; rfl
  have c5 : w1.cell? ⟨w.heap.size, 5, none⟩ = some (.int .i64 le) := by rw [Lib.cell_of_heap hX1]; rfl
  have c6 : w1.cell? ⟨w.heap.size, 6, none⟩ = some (.slice A es.length c) := by rw [Lib.cell_of_heap hX1]; rfl
  have c7 : w1.cell? ⟨w.heap.size, 7, none⟩ = some (.slice A' fd.length c') := by rw [Lib.cell_of_heap hX1]; rfl
  have HX1 := Lib.hid hX1
  clear hb1 hX1
  go_wp2_with fail
  refine (HC.out _ HB1.out).mono ?_
  rintro e w2 ⟨rfl, hb2⟩
  have HB2 := Lib.hid (HB1.out.trans (hb2.mono HB1.out.size))
  have hX2 := (hb2.block w.heap.size hz1).trans HX1.out
  clear c0 c1 c2 c3 c4 c5 c6 c7
  have c0 : w2.cell? ⟨w.heap.size, 0, none⟩ = some (.int .i64 ki) := by rw [Lib.cell_of_heap hX2]; rfl
  have c1 : w2.cell? ⟨w.heap.size, 1, none⟩ = some (.int .i64 st) := by rw [Lib.cell_of_heap hX2]; rfl
  have c2 : w2.cell? ⟨w.heap.size, 2, none⟩ = some (.int .i64 ep) := by rw [Lib.cell_of_heap hX2]; rfl
  have c3 : w2.cell? ⟨w.heap.size, 3, none⟩ = some (.int .i64 vi) := by rw [Lib.cell_of_heap hX2]; rfl
  have c4 : w2.cell? ⟨w.heap.size, 4, none⟩ = some (.int .i64 fr) := by rw [Lib.cell_of_heap hX2]; rfl
  have c5 : w2.cell? ⟨w.heap.size, 5, none⟩ = some (.int .i64 le) := by rw [Lib.cell_of_heap hX2]; rfl
  have c6 : w2.cell? ⟨w.heap.size, 6, none⟩ = some (.slice A es.length c) := by rw [Lib.cell_of_heap hX2]; rfl
  have c7 : w2.cell? ⟨w.heap.size, 7, none⟩ = some (.slice A' fd.length c') := by rw [Lib.cell_of_heap hX2]; rfl
  have HBX := Lib.hid ((HB2.out.alloc HB2.out.size (.cells #[.int .i64 ki, .int .i64 st, .int .i64 ep, .int .i64 n, .int .i64 fr, .int .i64 le, .slice A es.length c, .slice A' fd.length c'] 25)))
  clear hb2 hX2
  by_cases k0 : ki = 4
  · have t0 : decide (ki = 4) = true := decide_eq_true k0
    subst k0
    go_wp2_with fail
    refine (HW.out _ HBX.out).mono ?_
    rintro e w3 ⟨rfl, hb3⟩
    have HB3 := Lib.hid (HBX.out.trans (hb3.mono HBX.out.size))
    clear hb3
    go_wp2_with fail
    go_ret
    exact ⟨rfl, HB3.out⟩
  have t0 : decide (ki = 4) = false := decide_eq_false k0
  obtain rfl := HBR.out (t0)
  go_wp2_with fail
  refine (HC2.out _ HBX.out).mono ?_
  rintro e w3 ⟨rfl, hb3⟩
  have HB3 := Lib.hid (HBX.out.trans (hb3.mono HBX.out.size))
  clear hb3
  go_wp2_with fail
  refine (HW.out _ HB3.out).mono ?_
  rintro e w4 ⟨rfl, hb4⟩
  have HB4 := Lib.hid (HB3.out.trans (hb4.mono HB3.out.size))
  clear hb4
  go_wp2_with fail
  go_ret
  exact ⟨rfl, HB4.out⟩
set_option maxRecDepth 100000 in
set_option maxHeartbeats 4000000 in
theorem way_2 (r : Rec) (A A' : Option Addr) (c c' q : Nat) (n : Int) (w : World) (h : In r A A' c c' w) (hgr : (decide (500 < r.es.length) || decide (1000 < r.fd.length)) = false) (hmay : r.may = true) (hn0 : n ≠ 0) (hq : q % 6 = 2) : Says r A A' c c' q n w := by
  unfold Says
  have hl := h.lens
  have hb0 : Below w.heap.size w (w.alloc (.cells #[.int .i64 r.ki, .int .i64 r.st, .int .i64 r.ep, .int .i64 r.vi, .int .i64 r.fr, .int .i64 r.le, .slice A r.es.length c, .slice A' r.fd.length c'] 25)) := (Below.refl _ _).alloc (Nat.le_refl _) _
  have B0 : (w.alloc (.cells #[.int .i64 r.ki, .int .i64 r.st, .int .i64 r.ep, .int .i64 r.vi, .int .i64 r.fr, .int .i64 r.le, .slice A r.es.length c, .slice A' r.fd.length c'] 25)).heap[w.heap.size]? = some (.cells #[.int .i64 r.ki, .int .i64 r.st, .int .i64 r.ep, .int .i64 r.vi, .int .i64 r.fr, .int .i64 r.le, .slice A r.es.length c, .slice A' r.fd.length c'] 25 (0, 0)) := heap_alloc_new _ _
  have HG := Lib.hid (fun X => great_any r.ki r.st r.ep r.vi r.fr r.le r.es.length r.fd.length c c' A A' X hl.1 hl.2)
  have HW := h.works
  have HB0 := Lib.hid hb0
  have HX0 := Lib.hid B0
  have hgr2 := hgr
  simp only [Bool.or_eq_false_iff, decide_eq_false_iff_not] at hgr2
  have HC := Lib.hid (fun X hX => (h.check (by omega) (by omega)).out X hX r rfl rfl)
  have HC2 := Lib.hid (fun X hX => (h.check (by omega) (by omega)).out X hX ({ r with fr := n } : Rec) rfl rfl)
  have HBR := Lib.hid (fun hk => bare_fr (n := n) hmay hn0 hk)
  have he : r.err = 0 := by unfold Rec.err; rw [hmay]; rfl
  rw [he] at HC
  have tn : decide (n = 0) = false := decide_eq_false hn0
  have tq : ((q : Int) % 6) = 2 := by omega
  rw [hgr] at HG
  clear h hb0 B0 hgr hgr2 he hmay
  obtain ⟨er2, her2⟩ : ∃ e, Hid (({ r with fr := n } : Rec).err = e) := ⟨_, Lib.hid rfl⟩
  rw [her2.out] at HC2 HBR
  obtain ⟨ki, st, ep, vi, fr, le, es, fd⟩ := r
  dsimp only [Rec.v] at *
  go_enter Tryd.func7, Tryd.ntmps7
  go_wp2_with fail
  refine (HG.out _).mono ?_
  rintro e w1 ⟨rfl, hb1⟩
  have HB1 := Lib.hid (HB0.out.trans (hb1.mono HB0.out.size))
  have hX1 := (hb1.block w.heap.size (by simp)).trans HX0.out
  have hz1 : w.heap.size < w1.heap.size := by have := hb1.size; simp at this; omega
  have c0 : w1.cell? ⟨w.heap.size, 0, none⟩ = some (.int .i64 ki) := by rw [Lib.cell_of_heap hX1]; rfl
  have c1 : w1.cell? ⟨w.heap.size, 1, none⟩ = some (.int .i64 st) := by rw [Lib.cell_of_heap hX1]; rfl
  have c2 : w1.cell? ⟨w.heap.size, 2, none⟩ = some (.int .i64 ep) := by rw [Lib.cell_of_heap hX1]; rfl
  have c3 : w1.cell? ⟨w.heap.size, 3, none⟩ = some (.int .i64 vi) := by rw [Lib.cell_of_heap hX1]; rfl
  have c4 : w1.cell? ⟨w.heap.size, 4, none⟩ = some (.int .i64 fr) := by rw [Lib.cell_of_heap hX1]; rfl
  have c5 : w1.cell? ⟨w.heap.size, 5, none⟩ = some (.int .i64 le) := by rw [Lib.cell_of_heap hX1]; rfl
  have c6 : w1.cell? ⟨w.heap.size, 6, none⟩ = some (.slice A es.length c) := by rw [Lib.cell_of_heap hX1]; rfl
  have c7 : w1.cell? ⟨w.heap.size, 7, none⟩ = some (.slice A' fd.length c') := by rw [Lib.cell_of_heap hX1]; rfl
  have HX1 := Lib.hid hX1
  clear hb1 hX1
  go_wp2_with fail
  refine (HC.out _ HB1.out).mono ?_
  rintro e w2 ⟨rfl, hb2⟩
  have HB2 := Lib.hid (HB1.out.trans (hb2.mono HB1.out.size))
  have hX2 := (hb2.block w.heap.size hz1).trans HX1.out
  clear c0 c1 c2 c3 c4 c5 c6 c7
  have c0 : w2.cell? ⟨w.heap.size, 0, none⟩ = some (.int .i64 ki) := by rw [Lib.cell_of_heap hX2]; rfl
  have c1 : w2.cell? ⟨w.heap.size, 1, none⟩ = some (.int .i64 st) := by rw [Lib.cell_of_heap hX2]; rfl
  have c2 : w2.cell? ⟨w.heap.size, 2, none⟩ = some (.int .i64 ep) := by rw [Lib.cell_of_heap hX2]; rfl
  have c3 : w2.cell? ⟨w.heap.size, 3, none⟩ = some (.int .i64 vi) := by rw [Lib.cell_of_heap hX2]; rfl
  have c4 : w2.cell? ⟨w.heap.size, 4, none⟩ = some (.int .i64 fr) := by rw [Lib.cell_of_heap hX2]; rfl
  have c5 : w2.cell? ⟨w.heap.size, 5, none⟩ = some (.int .i64 le) := by rw [Lib.cell_of_heap hX2]; rfl
  have c6 : w2.cell? ⟨w.heap.size, 6, none⟩ = some (.slice A es.length c) := by rw [Lib.cell_of_heap hX2]; rfl
  have c7 : w2.cell? ⟨w.heap.size, 7, none⟩ = some (.slice A' fd.length c') := by rw [Lib.cell_of_heap hX2]; rfl
  have HBX := Lib.hid ((HB2.out.alloc HB2.out.size (.cells #[.int .i64 ki, .int .i64 st, .int .i64 ep, .int .i64 vi, .int .i64 n, .int .i64 le, .slice A es.length c, .slice A' fd.length c'] 25)))
  clear hb2 hX2
  by_cases k0 : ki = 2
  · have t0 : decide (ki = 2) = true := decide_eq_true k0
    subst k0
    go_wp2_with fail
    refine (HW.out _ HBX.out).mono ?_
    rintro e w3 ⟨rfl, hb3⟩
    have HB3 := Lib.hid (HBX.out.trans (hb3.mono HBX.out.size))
    clear hb3
    go_wp2_with fail
    go_ret
    exact ⟨rfl, HB3.out⟩
  have t0 : decide (ki = 2) = false := decide_eq_false k0
  obtain rfl := HBR.out (t0)
  go_wp2_with fail
  refine (HC2.out _ HBX.out).mono ?_
  rintro e w3 ⟨rfl, hb3⟩
  have HB3 := Lib.hid (HBX.out.trans (hb3.mono HBX.out.size))
  clear hb3
  go_wp2_with fail
  refine (HW.out _ HB3.out).mono ?_
  rintro e w4 ⟨rfl, hb4⟩
  have HB4 := Lib.hid (HB3.out.trans (hb4.mono HB3.out.size))
  clear hb4
  go_wp2_with fail
  go_ret
  exact ⟨rfl, HB4.out⟩
set_option maxRecDepth 100000 in
set_option maxHeartbeats 4000000 in
theorem way_3 (r : Rec) (A A' : Option Addr) (c c' q : Nat) (n : Int) (w : World) (h : In r A A' c c' w) (hgr : (decide (500 < r.es.length) || decide (1000 < r.fd.length)) = false) (hmay : r.may = true) (hn0 : n ≠ 0) (hq : q % 6 = 3) : Says r A A' c c' q n w := by
  unfold Says
  have hl := h.lens
  have hb0 : Below w.heap.size w (w.alloc (.cells #[.int .i64 r.ki, .int .i64 r.st, .int .i64 r.ep, .int .i64 r.vi, .int .i64 r.fr, .int .i64 r.le, .slice A r.es.length c, .slice A' r.fd.length c'] 25)) := (Below.refl _ _).alloc (Nat.le_refl _) _
  have B0 : (w.alloc (.cells #[.int .i64 r.ki, .int .i64 r.st, .int .i64 r.ep, .int .i64 r.vi, .int .i64 r.fr, .int .i64 r.le, .slice A r.es.length c, .slice A' r.fd.length c'] 25)).heap[w.heap.size]? = some (.cells #[.int .i64 r.ki, .int .i64 r.st, .int .i64 r.ep, .int .i64 r.vi, .int .i64 r.fr, .int .i64 r.le, .slice A r.es.length c, .slice A' r.fd.length c'] 25 (0, 0)) := heap_alloc_new _ _
  have HG := Lib.hid (fun X => great_any r.ki r.st r.ep r.vi r.fr r.le r.es.length r.fd.length c c' A A' X hl.1 hl.2)
  have HW := h.works
  have HB0 := Lib.hid hb0
  have HX0 := Lib.hid B0
  have hgr2 := hgr
  simp only [Bool.or_eq_false_iff, decide_eq_false_iff_not] at hgr2
  have HC := Lib.hid (fun X hX => (h.check (by omega) (by omega)).out X hX r rfl rfl)
  have HC2 := Lib.hid (fun X hX => (h.check (by omega) (by omega)).out X hX ({ r with le := n } : Rec) rfl rfl)
  have HBR := Lib.hid (fun hk => bare_le (n := n) hmay hn0 hk)
  have he : r.err = 0 := by unfold Rec.err; rw [hmay]; rfl
  rw [he] at HC
  have tn : decide (n = 0) = false := decide_eq_false hn0
  have tq : ((q : Int) % 6) = 3 := by omega
  rw [hgr] at HG
  clear h hb0 B0 hgr hgr2 he hmay
  obtain ⟨er2, her2⟩ : ∃ e, Hid (({ r with le := n } : Rec).err = e) := ⟨_, Lib.hid rfl⟩
  rw [her2.out] at HC2 HBR
  obtain ⟨ki, st, ep, vi, fr, le, es, fd⟩ := r
  dsimp only [Rec.v] at *
  go_enter Tryd.func7, Tryd.ntmps7
  go_wp2_with fail
  refine (HG.out _).mono ?_
  rintro e w1 ⟨rfl, hb1⟩
  have HB1 := Lib.hid (HB0.out.trans (hb1.mono HB0.out.size))
  have hX1 := (hb1.block w.heap.size (by simp)).trans HX0.out
  have hz1 : w.heap.size < w1.heap.size := by have := hb1.size; simp at this; omega
  have c0 : w1.cell? ⟨w.heap.size, 0, none⟩ = some (.int .i64 ki) := by rw [Lib.cell_of_heap hX1]; rfl
  have c1 : w1.cell? ⟨w.heap.size, 1, none⟩ = some (.int .i64 st) := by rw [Lib.cell_of_heap hX1]; rfl
  have c2 : w1.cell? ⟨w.heap.size, 2, none⟩ = some (.int .i64 ep) := by rw [Lib.cell_of_heap hX1]; rfl
  have c3 : w1.cell? ⟨w.heap.size, 3, none⟩ = some (.int .i64 vi) := by rw [Lib.cell_of_heap hX1]; rfl
  have c4 : w1.cell? ⟨w.heap.size, 4, none⟩ = some (.int .i64 fr) := by rw [Lib.cell_of_heap hX1]; rfl
  have c5 : w1.cell? ⟨w.heap.size, 5, none⟩ = some (.int .i64 le) := by rw [Lib.cell_of_heap hX1]; rfl
  have c6 : w1.cell? ⟨w.heap.size, 6, none⟩ = some (.slice A es.length c) := by rw [Lib.cell_of_heap hX1]; rfl
  have c7 : w1.cell? ⟨w.heap.size, 7, none⟩ = some (.slice A' fd.length c') := by rw [Lib.cell_of_heap hX1]; rfl
  have HX1 := Lib.hid hX1
  clear hb1 hX1
  go_wp2_with fail
  refine (HC.out _ HB1.out).mono ?_
  rintro e w2 ⟨rfl, hb2⟩
  have HB2 := Lib.hid (HB1.out.trans (hb2.mono HB1.out.size))
  have hX2 := (hb2.block w.heap.size hz1).trans HX1.out
  clear c0 c1 c2 c3 c4 c5 c6 c7
  have c0 : w2.cell? ⟨w.heap.size, 0, none⟩ = some (.int .i64 ki) := by rw [Lib.cell_of_heap hX2]; rfl
  have c1 : w2.cell? ⟨w.heap.size, 1, none⟩ = some (.int .i64 st) := by rw [Lib.cell_of_heap hX2]; rfl
  have c2 : w2.cell? ⟨w.heap.size, 2, none⟩ = some (.int .i64 ep) := by rw [Lib.cell_of_heap hX2]; rfl
  have c3 : w2.cell? ⟨w.heap.size, 3, none⟩ = some (.int .i64 vi) := by rw [Lib.cell_of_heap hX2]; rfl
  have c4 : w2.cell? ⟨w.heap.size, 4, none⟩ = some (.int .i64 fr) := by rw [Lib.cell_of_heap hX2]; rfl
  have c5 : w2.cell? ⟨w.heap.size, 5, none⟩ = some (.int .i64 le) := by rw [Lib.cell_of_heap hX2]; rfl
  have c6 : w2.cell? ⟨w.heap.size, 6, none⟩ = some (.slice A es.length c) := by rw [Lib.cell_of_heap hX2]; rfl
  have c7 : w2.cell? ⟨w.heap.size, 7, none⟩ = some (.slice A' fd.length c') := by rw [Lib.cell_of_heap hX2]; rfl
  have HBX := Lib.hid ((HB2.out.alloc HB2.out.size (.cells #[.int .i64 ki, .int .i64 st, .int .i64 ep, .int .i64 vi, .int .i64 fr, .int .i64 n, .slice A es.length c, .slice A' fd.length c'] 25)))
  clear hb2 hX2
  by_cases k0 : ki = 3
  · have t0 : decide (ki = 3) = true := decide_eq_true k0
    subst k0
    go_wp2_with fail
    refine (HW.out _ HBX.out).mono ?_
    rintro e w3 ⟨rfl, hb3⟩
    have HB3 := Lib.hid (HBX.out.trans (hb3.mono HBX.out.size))
    clear hb3
    go_wp2_with fail
    go_ret
    exact ⟨rfl, HB3.out⟩
  have t0 : decide (ki = 3) = false := decide_eq_false k0
  by_cases k1 : ki = 4
  · have t1 : decide (ki = 4) = true := decide_eq_true k1
    subst k1
    go_wp2_with fail
    refine (HW.out _ HBX.out).mono ?_
    rintro e w3 ⟨rfl, hb3⟩
    have HB3 := Lib.hid (HBX.out.trans (hb3.mono HBX.out.size))
    clear hb3
    go_wp2_with fail
    go_ret
    exact ⟨rfl, HB3.out⟩
  have t1 : decide (ki = 4) = false := decide_eq_false k1
  obtain rfl := HBR.out (by rw [t0, t1]; rfl)
  go_wp2_with fail
  refine (HC2.out _ HBX.out).mono ?_
  rintro e w3 ⟨rfl, hb3⟩
  have HB3 := Lib.hid (HBX.out.trans (hb3.mono HBX.out.size))
  clear hb3
  go_wp2_with fail
  refine (HW.out _ HB3.out).mono ?_
  rintro e w4 ⟨rfl, hb4⟩
  have HB4 := Lib.hid (HB3.out.trans (hb4.mono HB3.out.size))
  clear hb4
  go_wp2_with fail
  go_ret
  exact ⟨rfl, HB4.out⟩
end Go.Proofs.YtcbeommmacnkgaaDoor.recordsBareW

