/-
  Whether entries may be the log of a register: isLog of package register, and log of the document.
-/
import Derived.Test.YtnbhdehpdfojlaaDoorRgRMay
import Derived.Test.YtnbhdehpdfojlaaDoorLsRise
namespace Go.Proofs.YtnbhdehpdfojlaaDoor
open Go.RowKit
theorem logB_no {es : List En} {v : Int} {k : Nat} (hk : k < es.length) (h : es[k].ep < 1 ∨ v < es[k].ep ∨ es[k].o.may = false) : logB es v = false := by
  rw [← Bool.not_eq_true]
  intro hc
  simp only [logB, Bool.and_eq_true, List.all_eq_true, decide_eq_true_eq] at hc
  have := hc.2.2 _ (List.getElem_mem hk)
  rcases h with h | h | h
  · omega
  · omega
  · rw [h] at this; exact absurd this.2 (by simp)
theorem logB_rise {es : List En} {v : Int} (h : risB es = false) : logB es v = false := by simp [logB, h]
theorem logB_long {es : List En} {v : Int} (h : ¬ es.length ≤ 64) : logB es v = false := by simp [logB, h]
theorem logB_yes {es : List En} {v : Int} (hl : es.length ≤ 64) (hr : risB es = true) (h : ∀ k (hk : k < es.length), 1 ≤ es[k].ep ∧ es[k].ep ≤ v ∧ es[k].o.may = true) : logB es v = true := by
  simp only [logB, Bool.and_eq_true, List.all_eq_true, decide_eq_true_eq]
  refine ⟨hl, hr, fun e he => ?_⟩
  obtain ⟨k, hk, rfl⟩ := List.getElem_of_mem he
  exact ⟨⟨(h k hk).1, (h k hk).2.1⟩, (h k hk).2.2⟩
theorem keepE {X Y : World} {v : Value} {es : List En} (hb : Below X.heap.size X Y) (h : EsB X.heap.size X v es) : EsB Y.heap.size Y v es := RdB.mono (RdB.below h hb (Nat.le_refl _)) hb.size
theorem keepB {W X Y : World} (h : Below W.heap.size W X) (hb : Below X.heap.size X Y) : Below W.heap.size W Y := h.trans (hb.mono h.size)
theorem keepH {X Y : World} {g : Nat} {o : Obj} (hb : Below X.heap.size X Y) (h : X.heap[g]? = some o) : Y.heap[g]? = some o := (hb.block g (Array.getElem?_eq_some_iff.1 h).1).trans h
theorem keepC {X Y : World} {a : Addr} {v : Value} (hb : Below X.heap.size X Y) (h : X.cell? a = some v) : Y.cell? a = some v := (hb.cell (block_lt_of_cell h)).trans h
theorem box6 {X : World} {g : Nat} {a b c d e f : Value} {t : TypeId} {z : Nat × Nat} (h : X.heap[g]? = some (.cells #[a, b, c, d, e, f] t z)) : X.cell? ⟨g, 0, none⟩ = some a ∧ X.cell? ⟨g, 1, none⟩ = some b ∧ X.cell? ⟨g, 2, none⟩ = some c ∧ X.cell? ⟨g, 3, none⟩ = some d ∧ X.cell? ⟨g, 4, none⟩ = some e ∧ X.cell? ⟨g, 5, none⟩ = some f := by
  refine ⟨?_, ?_, ?_, ?_, ?_, ?_⟩ <;> (rw [Lib.cell_of_heap h]; rfl)
theorem below_new (w : World) (o : Obj) : Below w.heap.size w (w.alloc o) := (Below.refl _ _).alloc (Nat.le_refl _) o
set_option maxRecDepth 100000 in
set_option maxHeartbeats 2000000 in
theorem isLog_any {A : Option Addr} {c : Nat} {es : List En} (v : Int) (w : World) (ha : EsB w.heap.size w (.slice A es.length c) es) (hA : Asked w) : Calls Tryd.prog 25 #[.slice A es.length c, .int .i64 v] w (NumPost (.bool (logB es v)) w) := by
  have HCA := Lib.hid (fun X (hX : Below w.heap.size w X) k (hk : k < es.length) => EsB.cells (keepE hX ha) hk)
  have HAK := Lib.hid (fun X (hX : Below w.heap.size w X) => hA.keep hX)
  have HR := Lib.hid (rising_any ha)
  obtain ⟨A', c', hv, h1, h2, -⟩ := ha.len
  injection hv with e1 _ e3
  subst e1 e3
  have hl : es.length ≤ maxLen := by omega
  unfold maxLen at hl
  clear ha h2 hA
  by_cases h64 : 64 < es.length
  · have t0 : decide ((64 : Int) < (es.length : Int)) = true := decide_eq_true (by omega)
    rw [logB_long (by omega)]
    clear HCA HAK
    go_enter Tryd.func25, Tryd.ntmps25
    go_wp2_with fail
    go_ret
    exact ⟨rfl, Below.refl _ _⟩
  have t0 : decide ((64 : Int) < (es.length : Int)) = false := decide_eq_false (by omega)
  replace h64 : Hid (es.length ≤ 64) := Lib.hid (by omega)
  cases hr : risB es with
  | false =>
    rw [hr] at HR
    rw [logB_rise hr]
    clear HCA HAK hr
    go_enter Tryd.func25, Tryd.ntmps25
    go_wp2_with fail
    refine (HR.out).mono ?_
    rintro e w1 ⟨rfl, hb1⟩
    go_wp2_with fail
    go_ret
    exact ⟨rfl, hb1⟩
  | true =>
    rw [hr] at HR
    replace hr := Lib.hid hr
    go_enter Tryd.func25, Tryd.ntmps25
    go_wp2_with fail
    refine (HR.out).mono ?_
    rintro e w1 ⟨rfl, hb1⟩
    clear HR t0
    go_wp2_with fail
    go_loopw [17] (fun i wr => ∃ k : Nat, k ≤ es.length ∧ i = .int .i64 k ∧ Hid (∀ j (hj : j < es.length), j < k → 1 ≤ es[j].ep ∧ es[j].ep ≤ v ∧ es[j].o.may = true) ∧ Below w.heap.size w wr) (fun i _ => es.length - (intOf i).toNat)
    case atStart => exact ⟨0, Nat.zero_le _, rfl, Lib.hid fun j hj h => by omega, hb1⟩
    case round =>
      obtain ⟨k, hk, rfl, hup, hbr⟩ := hrel
      by_cases hlt : k < es.length
      · obtain ⟨b1, o1, c1, hv1, hl1, x0, x1, x2, x3, x4, x5⟩ := HCA.out wr hbr k hlt
        injection hv1 with e1 _ e3
        subst e1 e3
        have hii : (k : Int) < (es.length : Int) := by omega
        have HN : Hid (es[k].ep < 1 ∨ v < es[k].ep ∨ es[k].o.may = false → logB es v = false) := Lib.hid (logB_no hlt)
        have HU : Hid (1 ≤ es[k].ep → es[k].ep ≤ v → es[k].o.may = true → ∀ j (hj : j < es.length), j < k + 1 → 1 ≤ es[j].ep ∧ es[j].ep ≤ v ∧ es[j].o.may = true) := Lib.hid fun u1 u2 u3 j hj hjk => by
          by_cases e : j = k
          · subst e; exact ⟨u1, u2, u3⟩
          · exact hup.out j hj (by omega)
        clear hup HCA hl1
        have HC := Lib.hid (fun X hX => check_any es[k].o X hX)
        generalize es[k] = x at *
        obtain ⟨z0, z1, z2, z3, z4, z5⟩ := x
        dsimp only at x0 x1 x2 x3 x4 x5 HN HU HC
        obtain ⟨w2, HX2⟩ : ∃ W : World, Hid (W = wr.alloc (.cells #[.int .i64 z0, .int .i64 z1, .int .i64 z2, .int .i64 z3, .int .i64 z4, .int .i64 z5] 44)) := ⟨_, Lib.hid rfl⟩
        have hbw2 : Below wr.heap.size wr w2 := by rw [HX2.out]; exact below_new _ _
        have hh2 : w2.heap[wr.heap.size]? = some (.cells #[.int .i64 z0, .int .i64 z1, .int .i64 z2, .int .i64 z3, .int .i64 z4, .int .i64 z5] 44 (0, 0)) := by rw [HX2.out]; exact heap_alloc_new _ _
        obtain ⟨n0, n1, n2, n3, n4, n5⟩ := box6 hh2
        have hb2 := keepB hbr hbw2
        clear hbw2 hh2
        by_cases q1 : z0 < 1
        · have t1 : decide (z0 < 1) = true := decide_eq_true q1
          rw [HN.out (.inl q1)]
          clear HN HU HC q1
          go_wp2_with (rw [← HX2.out])
          go_ret
          exact ⟨rfl, hb2⟩
        have t1 : decide (z0 < 1) = false := decide_eq_false q1
        by_cases q2 : v < z0
        · have t2 : decide (v < z0) = true := decide_eq_true q2
          rw [HN.out (.inr (.inl q2))]
          clear HN HU HC q1 q2
          go_wp2_with (rw [← HX2.out])
          go_ret
          exact ⟨rfl, hb2⟩
        have t2 : decide (v < z0) = false := decide_eq_false q2
        cases q3 : Od.may ⟨z1, z2, z3, z4, z5⟩ with
        | false =>
          have HC := HC.out w2 (HAK.out _ hb2)
          rw [show Od.err ⟨z1, z2, z3, z4, z5⟩ = 2 by simp [Od.err, q3]] at HC
          replace HC := Lib.hid HC
          rw [HN.out (.inr (.inr q3))]
          clear HN HU q1 q2 q3 HAK
          go_wp2_with (rw [← HX2.out])
          refine (HC.out).mono ?_
          rintro e w3 ⟨rfl, hb3⟩
          go_wp2_with fail
          go_ret
          exact ⟨rfl, keepB hb2 hb3⟩
        | true =>
          have HC := HC.out w2 (HAK.out _ hb2)
          rw [show Od.err ⟨z1, z2, z3, z4, z5⟩ = 0 by simp [Od.err, q3]] at HC
          replace HC := Lib.hid HC
          have hu := Lib.hid (HU.out (by omega) (by omega) q3)
          clear HN HU q1 q2 q3 HAK
          go_wp2_with (rw [← HX2.out])
          refine (HC.out).mono ?_
          rintro e w3 ⟨rfl, hb3⟩
          go_wp2_with fail
          go_roundw
          case rel => exact ⟨k + 1, by omega, by go_num, hu, keepB hb2 hb3⟩
          case measure => simp [intOf]; omega
      · obtain rfl : k = es.length := by omega
        have hy : logB es v = true := logB_yes h64.out hr.out (fun k hk => hup.out k hk hk)
        clear HCA HAK hup
        replace hy := Lib.hid hy
        have hii : ¬ (es.length : Int) < (es.length : Int) := by omega
        go_wp2_with fail
        go_ret
        exact ⟨ret_bool hy.out.symm, hbr⟩
end Go.Proofs.YtnbhdehpdfojlaaDoor
