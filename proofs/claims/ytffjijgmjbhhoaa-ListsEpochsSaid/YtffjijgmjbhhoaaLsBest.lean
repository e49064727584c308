/-
  Best of package lists, and of the document.
-/
import Derived.Test.YtffjijgmjbhhoaaLsMath
import Derived.Shelf.Abstract
namespace Go.Proofs.Ytffjijgmjbhhoaa
open Go.RowKit Go.Sort
/-- A slice that reads as these registers, in blocks below B. -/
def RgsB (B : Nat) (w : World) (v : Value) (rs : List Rg) : Prop :=
  ∃ A c, v = .slice A rs.length c ∧ rs.length ≤ c ∧ c ≤ maxLen ∧ (A = none → rs.length = 0 ∧ c = 0) ∧ (0 < rs.length → ∃ b o, A = some ⟨b, o, none⟩ ∧ b < B ∧
    ∀ k, k < rs.length → w.cell? ⟨b, o + k * 4, none⟩ = some (.int .i64 (rs.getD k rg0).p) ∧ w.cell? ⟨b, o + k * 4 + 1, none⟩ = some (.int .i64 (rs.getD k rg0).v) ∧
      w.cell? ⟨b, o + k * 4 + 2, none⟩ = some (.slice (rs.getD k rg0).A (rs.getD k rg0).n (rs.getD k rg0).c) ∧ w.cell? ⟨b, o + k * 4 + 3, none⟩ = some (.int .i64 (rs.getD k rg0).m))
theorem RgsB.below {B B' : Nat} {w w' : World} {v : Value} {rs : List Rg} (h : RgsB B w v rs) (hb : Below B' w w') (hB : B ≤ B') : RgsB B w' v rs := by
  obtain ⟨A, c, h1, h2, h3, h4, h5⟩ := h
  refine ⟨A, c, h1, h2, h3, h4, fun h0 => ?_⟩
  obtain ⟨b, o, rfl, hl, hc⟩ := h5 h0
  have hb' : b < B' := Nat.lt_of_lt_of_le hl hB
  exact ⟨b, o, rfl, hl, fun k hk => ⟨(hb.cell (p := ⟨b, _, none⟩) hb').trans (hc k hk).1, (hb.cell (p := ⟨b, _, none⟩) hb').trans (hc k hk).2.1, (hb.cell (p := ⟨b, _, none⟩) hb').trans (hc k hk).2.2.1, (hb.cell (p := ⟨b, _, none⟩) hb').trans (hc k hk).2.2.2⟩⟩
theorem RgsB.len {B : Nat} {w : World} {v : Value} {rs : List Rg} (h : RgsB B w v rs) : ∃ A c, v = .slice A rs.length c ∧ rs.length ≤ c ∧ c ≤ maxLen ∧ (A = none → rs.length = 0 ∧ c = 0) := by
  obtain ⟨A, c, h1, h2, h3, h4, _⟩ := h
  exact ⟨A, c, h1, h2, h3, h4⟩
theorem RgsB.cells {B : Nat} {w : World} {v : Value} {rs : List Rg} (h : RgsB B w v rs) (h0 : 0 < rs.length) : ∃ b o c, v = .slice (some ⟨b, o, none⟩) rs.length c ∧ b < B ∧
    ∀ k, k < rs.length → w.cell? ⟨b, o + k * 4, none⟩ = some (.int .i64 (rs.getD k rg0).p) ∧ w.cell? ⟨b, o + k * 4 + 1, none⟩ = some (.int .i64 (rs.getD k rg0).v) ∧
      w.cell? ⟨b, o + k * 4 + 2, none⟩ = some (.slice (rs.getD k rg0).A (rs.getD k rg0).n (rs.getD k rg0).c) ∧ w.cell? ⟨b, o + k * 4 + 3, none⟩ = some (.int .i64 (rs.getD k rg0).m) := by
  obtain ⟨A, c, rfl, _, _, _, h5⟩ := h
  obtain ⟨b, o, rfl, hl, hc⟩ := h5 h0
  exact ⟨b, o, c, rfl, hl, hc⟩
set_option maxRecDepth 100000 in
set_option maxHeartbeats 1000000 in
theorem better_any (a b : Rg) (w : World) : Calls Try.prog 27 #[a.val, b.val] w (NumPost (.bool (better a b)) w) := by
  obtain ⟨a0, a1, aA, an, ac, am⟩ := a
  obtain ⟨b0, b1, bA, bn, bc, bm⟩ := b
  simp only [Rg.val, better]
  by_cases he : a1 = b1
  · subst he
    have h1 : (a1 != a1) = false := by simp
    have h2 : decide (a1 < a1 ∨ a1 = a1 ∧ bn < an) = decide (bn < an) := by simp
    rw [h2]
    clear h2
    go_enter Try.func27, Try.ntmps27
    go_wp2
    go_ret
    exact ⟨rfl, ((Below.refl _ _).alloc (Nat.le_refl _) _).alloc (by simp) _⟩
  · have h1 : (a1 == b1) = false := beq_eq_false_iff_ne.2 he
    have h3 : (a1 != b1) = true := by simp [he]
    have h2 : decide (b1 < a1 ∨ a1 = b1 ∧ bn < an) = decide (b1 < a1) := by simp [he]
    rw [h2]
    clear h2 he
    go_enter Try.func27, Try.ntmps27
    go_wp2
    go_ret
    exact ⟨rfl, ((Below.refl _ _).alloc (Nat.le_refl _) _).alloc (by simp) _⟩
set_option maxRecDepth 100000 in
set_option maxHeartbeats 1000000 in
theorem top_any {va : Value} {B : Nat} {rs : List Rg} {w : World} (ha : RgsB B w va rs) (hB : B ≤ w.heap.size) : Calls Try.prog 26 #[va, .func (.func 27) #[] #[]] w (NumPost (.int .i64 (bestR rs)) w) := by
  have HCA := Lib.hid (fun X (hX : Below w.heap.size w X) (h0 : 0 < rs.length) => RgsB.cells (RgsB.below ha hX hB) h0)
  obtain ⟨A, ca, rfl, h1, h2, -⟩ := ha.len
  have hl : rs.length ≤ maxLen := by omega
  unfold maxLen at hl
  clear ha h2
  by_cases h0 : rs.length = 0
  · have hr : bestR rs = -1 := by unfold bestR; rw [if_pos h0]
    rw [hr]
    have t1 : ((rs.length : Int) == 0) = true := by rw [h0]; rfl
    have t2 : (rs.length == 0) = true := by rw [h0]; rfl
    replace h0 := Lib.hid h0
    clear hr HCA
    go_enter Try.func26, Try.ntmps26
    go_wp2
    go_ret
    exact ⟨rfl, Below.refl _ _⟩
  · have HR : Hid (bestR rs = (bestUp rs rs.length : Int)) := Lib.hid (by unfold bestR; rw [if_neg h0])
    have hpos : 0 < rs.length := by omega
    have t1 : ((rs.length : Int) == 0) = false := beq_eq_false_iff_ne.2 (by omega)
    have t2 : (rs.length == 0) = false := beq_eq_false_iff_ne.2 h0
    replace h0 := Lib.hid h0
    go_enter Try.func26, Try.ntmps26
    go_wp2
    go_loopw [5, 12] (fun q i wr => ∃ k m : Nat, k ≤ rs.length ∧ i = .int .i64 k ∧ q = .int .i64 m ∧ Hid (m = bestUp rs k) ∧ m < rs.length ∧ Below w.heap.size w wr) (fun _ i _ => rs.length - (intOf i).toNat)
    case atStart => exact ⟨0, 0, Nat.zero_le _, rfl, rfl, Lib.hid rfl, hpos, Below.refl _ _⟩
    case round =>
      obtain ⟨k, m, hk, rfl, rfl, hm, hmr, hst⟩ := hrel
      by_cases hlt : k < rs.length
      · obtain ⟨b1, o1, c1, hv1, _, hx⟩ := HCA.out wr hst hpos
        injection hv1 with e1 _ e3
        subst e1 e3
        obtain ⟨x0, x1, x2, x3⟩ := hx k hlt
        obtain ⟨y0, y1, y2, y3⟩ := hx m hmr
        have hii : (k : Int) < (rs.length : Int) := by omega
        have hjj : (m : Int) < (rs.length : Int) := by omega
        have HS : Hid (bestUp rs (k + 1) = if better (rs.getD k rg0) (rs.getD m rg0) = true then k else m) := Lib.hid (by rw [bestUp, hm.out])
        clear HCA hm hx
        generalize rs.getD k rg0 = x at *
        generalize rs.getD m rg0 = y at *
        have HBT : Hid (∀ X, Calls Try.prog 27 #[x.val, y.val] X (NumPost (.bool (better x y)) X)) := Lib.hid fun X => better_any x y X
        have k0 : ∀ d' os, (grow (redrawn wr d') os).cell? ⟨b1, o1 + k * 4, none⟩ = some (.int .i64 x.p) := fun d' os => cell_regrown x0 d' os
        have k1 : ∀ d' os, (grow (redrawn wr d') os).cell? ⟨b1, o1 + k * 4 + 1, none⟩ = some (.int .i64 x.v) := fun d' os => cell_regrown x1 d' os
        have k2 : ∀ d' os, (grow (redrawn wr d') os).cell? ⟨b1, o1 + k * 4 + 2, none⟩ = some (.slice x.A x.n x.c) := fun d' os => cell_regrown x2 d' os
        have k3 : ∀ d' os, (grow (redrawn wr d') os).cell? ⟨b1, o1 + k * 4 + 3, none⟩ = some (.int .i64 x.m) := fun d' os => cell_regrown x3 d' os
        have l0 : ∀ d' os, (grow (redrawn wr d') os).cell? ⟨b1, o1 + m * 4, none⟩ = some (.int .i64 y.p) := fun d' os => cell_regrown y0 d' os
        have l1 : ∀ d' os, (grow (redrawn wr d') os).cell? ⟨b1, o1 + m * 4 + 1, none⟩ = some (.int .i64 y.v) := fun d' os => cell_regrown y1 d' os
        have l2 : ∀ d' os, (grow (redrawn wr d') os).cell? ⟨b1, o1 + m * 4 + 2, none⟩ = some (.slice y.A y.n y.c) := fun d' os => cell_regrown y2 d' os
        have l3 : ∀ d' os, (grow (redrawn wr d') os).cell? ⟨b1, o1 + m * 4 + 3, none⟩ = some (.int .i64 y.m) := fun d' os => cell_regrown y3 d' os
        have c0 : ∀ d' os, Calls Try.prog 27 #[.agg #[.int .i64 x.p, .int .i64 x.v, .slice x.A x.n x.c, .int .i64 x.m], .agg #[.int .i64 y.p, .int .i64 y.v, .slice y.A y.n y.c, .int .i64 y.m]] (grow (redrawn wr d') os) fun e w'' => e = .returned (.bool (better x y)) ∧ ∃ p : Regrown, w'' = grow (redrawn wr p.d) p.os := fun d' os => Calls.regrown_of (HBT.out _)
        clear HBT x0 x1 x2 x3 y0 y1 y2 y3
        generalize better x y = bt at *
        obtain ⟨xp, xv, xA, xn, xc, xm⟩ := x
        obtain ⟨yp, yv, yA, yn, yc, ym⟩ := y
        dsimp only at k0 k1 k2 k3 l0 l1 l2 l3 c0
        go_wp2_with fail
        refine wp_region_quiet_below (by kernel_rfl) (by kernel_rfl) ?_
        repeat (go_big_quiet_step (with_reducible exact c0 _ _))
        refine wpQuiet_nil ?_
        intro _ hw'
        obtain ⟨⟨dq, osq⟩, hw''⟩ := hw'
        subst hw''
        have hbq := below_regrown wr dq osq
        generalize grow (redrawn wr dq) osq = w5 at *
        clear k0 k1 k2 k3 l0 l1 l2 l3 c0
        have hb5 : Below w.heap.size w w5 := hst.trans (hbq.mono hst.size)
        clear hbq hst
        cases bt
        · rw [if_neg (by decide)] at HS
          go_wp2_with fail
          go_roundw
          case rel => exact ⟨k + 1, m, by omega, by go_num, rfl, Lib.hid HS.out.symm, hmr, hb5⟩
          case measure => simp [intOf]; omega
        · rw [if_pos rfl] at HS
          go_wp2_with fail
          go_roundw
          case rel => exact ⟨k + 1, k, by omega, by go_num, rfl, Lib.hid HS.out.symm, hlt, hb5⟩
          case measure => simp [intOf]; omega
      · obtain rfl : k = rs.length := by omega
        have HM : Hid (bestR rs = (m : Int)) := Lib.hid (by rw [HR.out, hm.out])
        clear hm HR HCA
        go_wp2_with fail
        go_ret
        exact ⟨by rw [HM.out]; rfl, hst⟩
theorem best_any {va : Value} {B : Nat} {rs : List Rg} {w : World} (ha : RgsB B w va rs) (hB : B ≤ w.heap.size) : Calls Try.prog 18 #[va] w (NumPost (.int .i64 (bestR rs)) w) := by
  have HT := Lib.hid (top_any ha hB)
  obtain ⟨A, ca, rfl, h1, h2, -⟩ := ha.len
  clear ha h2
  go_enter Try.func18, Try.ntmps18
  go_wp2_with fail
  refine (HT.out).mono ?_
  rintro e w2 ⟨rfl, hb⟩
  go_wp2_with fail
  go_ret
  exact ⟨rfl, hb⟩
end Go.Proofs.Ytffjijgmjbhhoaa
