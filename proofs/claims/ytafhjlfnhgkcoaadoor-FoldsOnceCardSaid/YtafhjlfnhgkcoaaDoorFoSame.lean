/-
  SameOutcomes and SameEntries of the statements: lists that read alike.
-/
import Derived.Test.YtafhjlfnhgkcoaaDoorFoCalls
import Derived.Test.YtafhjlfnhgkcoaaDoorAeSame
import Derived.Deep.QuietTactic
import Derived.BigQuiet
import Derived.Lib.QuietBelow
namespace Go.Proofs.YtafhjlfnhgkcoaaDoor
open Go.RowKit Go.Sort
/-- All memory as it was. -/
def Still (w w' : World) : Prop := ∀ B, Below B w w'
theorem Still.refl (w : World) : Still w w := fun B => Below.refl B w
theorem Still.drewN {w w' : World} (h : Still w w') (n : Nat) : Still w (w'.drewN n) := fun B => ⟨(h B).os, (h B).tape, (h B).output, (h B).size, (h B).block⟩
theorem Still.cell {w w' : World} (h : Still w w') (a : Addr) : w'.cell? a = w.cell? a := (h (a.block + 1)).cell (by omega)
set_option maxRecDepth 100000 in
set_option maxHeartbeats 1000000 in
theorem sameEs_any {va vb : Value} {B B' : Nat} {es : List En} {w : World} (ha : EsB B w va es) (hb : EsB B' w vb es) : Calls Tryd.prog 25 #[va, vb] w (NumPost (.bool true) w) := by
  have HCA := Lib.hid (fun k hk => EsB.cells ha (k := k) hk)
  have HCB := Lib.hid (fun k hk => EsB.cells hb (k := k) hk)
  obtain ⟨A, ca, rfl, h1, h2, -⟩ := ha.len
  obtain ⟨A', cb, rfl, h1', h2', -⟩ := hb.len
  have hl : es.length ≤ maxLen := by omega
  unfold maxLen at hl
  clear ha hb h2 h2'
  go_enter Tryd.func25, Tryd.ntmps25
  go_wp2
  go_loopw [5] (fun i wr => ∃ k : Nat, k ≤ es.length ∧ i = .int .i64 k ∧ Still w wr) (fun i _ => es.length - (intOf i).toNat)
  case atStart => exact ⟨0, Nat.zero_le _, rfl, Still.refl _⟩
  case round =>
    obtain ⟨k, hk, rfl, hst⟩ := hrel
    by_cases hlt : k < es.length
    · obtain ⟨b1, o1, c1, hv1, _, x0, x1, x2, x3, x4, x5⟩ := HCA.out k hlt
      obtain ⟨b2, o2, c2, hv2, _, y0, y1, y2, y3, y4, y5⟩ := HCB.out k hlt
      injection hv1 with e1 _ e3
      injection hv2 with e2 _ e4
      subst e1 e2 e3 e4
      have x0 := (hst.cell ⟨b1, o1 + k * 6, none⟩).trans x0
      have y0 := (hst.cell ⟨b2, o2 + k * 6, none⟩).trans y0
      have x1 := (hst.cell ⟨b1, o1 + k * 6 + 1, none⟩).trans x1
      have y1 := (hst.cell ⟨b2, o2 + k * 6 + 1, none⟩).trans y1
      have x2 := (hst.cell ⟨b1, o1 + k * 6 + 2, none⟩).trans x2
      have y2 := (hst.cell ⟨b2, o2 + k * 6 + 2, none⟩).trans y2
      have x3 := (hst.cell ⟨b1, o1 + k * 6 + 3, none⟩).trans x3
      have y3 := (hst.cell ⟨b2, o2 + k * 6 + 3, none⟩).trans y3
      have x4 := (hst.cell ⟨b1, o1 + k * 6 + 4, none⟩).trans x4
      have y4 := (hst.cell ⟨b2, o2 + k * 6 + 4, none⟩).trans y4
      have x5 := (hst.cell ⟨b1, o1 + k * 6 + 5, none⟩).trans x5
      have y5 := (hst.cell ⟨b2, o2 + k * 6 + 5, none⟩).trans y5
      have hii : (k : Int) < (es.length : Int) := by omega
      clear HCA HCB
      generalize es[k] = ee at *
      obtain ⟨z0, z1, z2, z3, z4, z5⟩ := ee
      dsimp only at x0 x1 x2 x3 x4 x5 y0 y1 y2 y3 y4 y5
      go_wp2
      go_quiet (fail)
      go_wp2
      go_roundw
      case rel => exact ⟨k + 1, by omega, by go_num, hst.drewN _⟩
      case measure => simp [intOf]; omega
    · go_wp2
      go_ret
      exact ⟨rfl, hst _⟩
/-- Two outcomes at their places, in every world that a quiet region goes through. -/
theorem oc_pair {lo hi lo' hi' : Nat} {w : World} {g g' o o' k k' : Nat} {x : Oc} (ha : OcAt lo hi w g o k x) (hb : OcAt lo' hi' w g' o' k' x) :
    ∃ V V', w.cell? ⟨g, o + k * 3, none⟩ = some (.int .i64 x.code) ∧ w.cell? ⟨g, o + k * 3 + 1, none⟩ = some (.int .i64 x.ver) ∧ w.cell? ⟨g, o + k * 3 + 2, none⟩ = some V ∧
      w.cell? ⟨g', o' + k' * 3, none⟩ = some (.int .i64 x.code) ∧ w.cell? ⟨g', o' + k' * 3 + 1, none⟩ = some (.int .i64 x.ver) ∧ w.cell? ⟨g', o' + k' * 3 + 2, none⟩ = some V' ∧
      V.oneCell' = true ∧ V'.oneCell' = true ∧ ∀ X : World, Below w.heap.size w X → Calls Tryd.prog 19 #[.agg #[.int .i64 x.code, .int .i64 x.ver, V], .agg #[.int .i64 x.code, .int .i64 x.ver, V']] X (NumPost (.bool true) X) := by
  obtain ⟨V, a0, a1, a2, a3⟩ := ha
  obtain ⟨V', b0, b1, b2, b3⟩ := hb
  refine ⟨V, V', a0, a1, a2, b0, b1, b2, a3.oneCell, b3.oneCell, fun X hX => ?_⟩
  rcases a3 with ⟨hn, rfl⟩ | ⟨e, q, hn, rfl, _, _, hq⟩
  · rcases b3 with ⟨_, rfl⟩ | ⟨e, q, hn', _⟩
    · exact same_nil _ _ X
    · rw [hn] at hn'; cases hn'
  · rcases b3 with ⟨hn', rfl⟩ | ⟨e', q', hn', rfl, _, _, hq'⟩
    · rw [hn] at hn'; cases hn'
    · rw [hn] at hn'
      obtain rfl : e = e' := by injection hn'
      exact same_one _ _ _ _ _ _ X ((hX.block q (lt_of_block hq)).trans hq) ((hX.block q' (lt_of_block hq')).trans hq')
set_option maxRecDepth 100000 in
set_option maxHeartbeats 2000000 in
theorem sameOcs_any {va vb : Value} {lo hi lo' hi' : Nat} {os : List Oc} {w : World} (ha : OcsB lo hi w va os) (hb : OcsB lo' hi' w vb os) (hh : hi ≤ w.heap.size) (hh' : hi' ≤ w.heap.size) : Calls Tryd.prog 13 #[va, vb] w (NumPost (.bool true) w) := by
  have HCA := Lib.hid (fun X (hX : Below w.heap.size w X) k (hk : k < os.length) => OcsB.cells (ha.below hX hh) hk)
  have HCB := Lib.hid (fun X (hX : Below w.heap.size w X) k (hk : k < os.length) => OcsB.cells (hb.below hX hh') hk)
  obtain ⟨A, ca, rfl, h1, h2, -⟩ := ha.len
  obtain ⟨A', cb, rfl, h1', h2', -⟩ := hb.len
  have hl : os.length ≤ maxLen := by omega
  unfold maxLen at hl
  clear ha hb h2 h2'
  go_enter Tryd.func13, Tryd.ntmps13
  go_wp2
  go_loopw [5] (fun i wr => ∃ k : Nat, k ≤ os.length ∧ i = .int .i64 k ∧ Below w.heap.size w wr) (fun i _ => os.length - (intOf i).toNat)
  case atStart => exact ⟨0, Nat.zero_le _, rfl, Below.refl _ _⟩
  case round =>
    obtain ⟨k, hk, rfl, hst⟩ := hrel
    by_cases hlt : k < os.length
    · obtain ⟨b1, c1, hv1, _, _, hx⟩ := HCA.out wr hst k hlt
      obtain ⟨b2, c2, hv2, _, _, hy⟩ := HCB.out wr hst k hlt
      injection hv1 with e1 _ e3
      injection hv2 with e2 _ e4
      subst e1 e2 e3 e4
      obtain ⟨V, V', x0, x1, x2, y0, y1, y2, o1, o2, HS⟩ := oc_pair hx hy
      replace HS := Lib.hid HS
      clear hx hy
      have hii : (k : Int) < (os.length : Int) := by omega
      clear HCA HCB
      generalize os[k] = ee at *
      obtain ⟨z0, z1, z2⟩ := ee
      dsimp only at x0 x1 x2 y0 y1 y2 HS
      rw [Nat.zero_add] at x0 x1 x2 y0 y1 y2
      have k0 : ∀ d' os, (grow (redrawn wr d') os).cell? ⟨b1, k * 3, none⟩ = some (.int .i64 z0) := fun d' os => cell_regrown x0 d' os
      have k1 : ∀ d' os, (grow (redrawn wr d') os).cell? ⟨b1, k * 3 + 1, none⟩ = some (.int .i64 z1) := fun d' os => cell_regrown x1 d' os
      have k2 : ∀ d' os, (grow (redrawn wr d') os).cell? ⟨b1, k * 3 + 2, none⟩ = some V := fun d' os => cell_regrown x2 d' os
      have l0 : ∀ d' os, (grow (redrawn wr d') os).cell? ⟨b2, k * 3, none⟩ = some (.int .i64 z0) := fun d' os => cell_regrown y0 d' os
      have l1 : ∀ d' os, (grow (redrawn wr d') os).cell? ⟨b2, k * 3 + 1, none⟩ = some (.int .i64 z1) := fun d' os => cell_regrown y1 d' os
      have l2 : ∀ d' os, (grow (redrawn wr d') os).cell? ⟨b2, k * 3 + 2, none⟩ = some V' := fun d' os => cell_regrown y2 d' os
      have c0 : ∀ d' os, Calls Tryd.prog 19 #[.agg #[.int .i64 z0, .int .i64 z1, V], .agg #[.int .i64 z0, .int .i64 z1, V']] (grow (redrawn wr d') os) fun e w'' => e = .returned (.bool true) ∧ ∃ p : Regrown, w'' = grow (redrawn wr p.d) p.os := fun d' os => Calls.regrown_of (HS.out _ (below_regrown wr d' os))
      clear HS x0 x1 x2 y0 y1 y2
      go_wp2_with fail
      refine wp_region_quiet_below (by kernel_rfl) (by kernel_rfl) ?_
      repeat (go_big_quiet_step (with_reducible exact c0 _ _))
      refine wpQuiet_nil ?_
      intro _ hw'
      obtain ⟨⟨dq, osq⟩, hw''⟩ := hw'
      subst hw''
      have hbq := below_regrown wr dq osq
      generalize grow (redrawn wr dq) osq = w5 at *
      clear k0 k1 k2 l0 l1 l2 c0
      have hb5 : Below w.heap.size w w5 := hst.trans (hbq.mono hst.size)
      clear hbq hst
      go_wp2_with fail
      go_roundw
      case rel => exact ⟨k + 1, by omega, by go_num, hb5⟩
      case measure => simp [intOf]; omega
    · go_wp2
      go_ret
      exact ⟨rfl, hst⟩
end Go.Proofs.YtafhjlfnhgkcoaaDoor
