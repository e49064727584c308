/-
  SameLog of the statements, of any two logs.
-/
import Derived.Test.YtnbhdehpdfojlaaDoorLsCommon
namespace Go.Proofs.YtnbhdehpdfojlaaDoor
open Go.RowKit
set_option maxRecDepth 100000 in
set_option maxHeartbeats 1000000 in
theorem sameEn_any {va vb : Value} {B B' : Nat} {es fs : List En} {w : World} (ha : EsB B w va es) (hb : EsB B' w vb fs) : Calls Tryd.prog 18 #[va, vb] w (NumPost (.bool (decide (es = fs))) w) := by
  have HCA := Lib.hid (fun k hk => EsB.cells ha (k := k) hk)
  have HCB := Lib.hid (fun k hk => EsB.cells hb (k := k) hk)
  obtain ⟨A, ca, rfl, h1, h2, -⟩ := ha.len
  obtain ⟨A', cb, rfl, h1', h2', -⟩ := hb.len
  have hl : es.length ≤ maxLen := by omega
  have hl' : fs.length ≤ maxLen := by omega
  unfold maxLen at hl hl'
  clear ha hb h2 h2'
  by_cases hel : es.length = fs.length
  · have HH := Lib.hid hel
    have t0 : ((es.length : Int) == (fs.length : Int)) = true := by rw [hel]; simp
    have t1 : ((es.length : Int) != (fs.length : Int)) = false := by rw [hel]; simp
    clear hel
    go_enter Tryd.func18, Tryd.ntmps18
    go_wp2
    go_loopw [4, 5] (fun r i wr => ∃ k : Nat, k ≤ es.length ∧ r = .bool false ∧ i = .int .i64 k ∧ Hid (k ≤ cp es fs) ∧ Still w wr) (fun _ i _ => es.length - (intOf i).toNat)
    case atStart => exact ⟨0, Nat.zero_le _, rfl, rfl, Lib.hid (Nat.zero_le _), Still.refl _⟩
    case round =>
      obtain ⟨k, hk, rfl, rfl, hcp, hst⟩ := hrel
      by_cases hlt : k < es.length
      · obtain ⟨b1, o1, c1, hv1, _, x0, x1, x2, x3, x4, x5⟩ := HCA.out k (by omega)
        obtain ⟨b2, o2, c2, hv2, _, y0, y1, y2, y3, y4, y5⟩ := HCB.out k (by have := HH.out; omega)
        injection hv1 with e1 _ e3
        injection hv2 with e2 _ e4
        subst e1 e2 e3 e4
        have x0 := (hst.cell ⟨b1, o1 + k * 6, none⟩).trans x0
        have y0 := (hst.cell ⟨b2, o2 + k * 6, none⟩).trans y0
        have x1 := (hst.cell ⟨b1, o1 + k * 6 + 1, none⟩).trans x1
        have y1 := (hst.cell ⟨b2, o2 + k * 6 + 1, none⟩).trans y1
        have x2 := (hst.cell ⟨b1, o1 + k * 6 + 2, none⟩).trans x2
        have y2 := (hst.cell ⟨b2, o2 + k * 6 + 2, none⟩).trans y2
        have x3 := (hst.cell ⟨b1, o1 + k * 6 + 3, none⟩).trans x3
        have y3 := (hst.cell ⟨b2, o2 + k * 6 + 3, none⟩).trans y3
        have x4 := (hst.cell ⟨b1, o1 + k * 6 + 4, none⟩).trans x4
        have y4 := (hst.cell ⟨b2, o2 + k * 6 + 4, none⟩).trans y4
        have x5 := (hst.cell ⟨b1, o1 + k * 6 + 5, none⟩).trans x5
        have y5 := (hst.cell ⟨b2, o2 + k * 6 + 5, none⟩).trans y5
        have hii : (k : Int) < (es.length : Int) := by omega
        have hjj : (k : Int) < (fs.length : Int) := by have := HH.out; omega
        have HS := Lib.hid (cp_step es fs k hcp.out (by omega) (by have := HH.out; omega))
        have k1 : k < es.length := by omega
        have k2 : k < fs.length := by have := HH.out; omega
        have HK : Hid (es[k] ≠ fs[k] → es ≠ fs) := Lib.hid fun h e => h (by subst e; rfl)
        clear HCA HCB hcp
        generalize es[k] = x at *
        generalize fs[k] = y at *
        by_cases he : x = y
        · subst he
          have hn := Lib.hid (HS.out.1 rfl)
          clear HS HK k1 k2
          obtain ⟨z0, z1, z2, z3, z4, z5⟩ := x
          dsimp only at x0 x1 x2 x3 x4 x5 y0 y1 y2 y3 y4 y5
          go_wp2
          go_quiet (fail)
          go_wp2
          go_roundw
          case rel => exact ⟨k + 1, by omega, rfl, by go_num, hn, hst.drewN _⟩
          case measure => simp [intOf]; omega
        · have hn := Lib.hid (HK.out he)
          have hp := en_part he
          clear HS he HK k1 k2
          obtain ⟨p0, p1, p2, p3, p4, p5⟩ := x
          obtain ⟨q0, q1, q2, q3, q4, q5⟩ := y
          dsimp only at x0 x1 x2 x3 x4 x5 y0 y1 y2 y3 y4 y5 hp
          have hret : ∀ n, NumPost (.bool (decide (es = fs))) w (.returned (.bool false)) (wr.drewN n) := fun n => ⟨by rw [decide_eq_false hn.out], hst.drewN n _⟩
          rcases hp with h | ⟨rfl, h⟩ | ⟨rfl, rfl, h⟩ | ⟨rfl, rfl, rfl, h⟩ | ⟨rfl, rfl, rfl, rfl, h⟩ | ⟨rfl, rfl, rfl, rfl, rfl, h⟩ <;>
          · have hb := beq_eq_false_iff_ne.2 h
            clear h
            go_wp2
            go_quiet (fail)
            go_wp2
            go_ret
            exact hret _
      · have hke : k = es.length := by omega
        have HC := Lib.hid (cp_end hcp.out (.inl hke))
        replace hke := Lib.hid hke
        have hii : ¬ (k : Int) < (es.length : Int) := by omega
        have hc : Hid (es = fs) := Lib.hid (by
          have h := (cp_iff es fs).1 (HC.out.trans hke.out)
          exact h.eq_of_length HH.out)
        go_wp2
        go_ret
        exact ⟨ret_bool (decide_eq_true hc.out).symm, hst _⟩
  · have hne : decide (es = fs) = false := decide_eq_false fun e => hel (by rw [e])
    rw [hne]
    have t0 : ((es.length : Int) == (fs.length : Int)) = false := beq_eq_false_iff_ne.2 (by omega)
    have t1 : ((es.length : Int) != (fs.length : Int)) = true := by simp; omega
    clear HCA HCB hne
    generalize es.length = n1 at *
    generalize fs.length = n2 at *
    go_enter Tryd.func18, Tryd.ntmps18
    go_wp2
    go_ret
    exact ⟨rfl, Below.refl _ _⟩
end Go.Proofs.YtnbhdehpdfojlaaDoor
