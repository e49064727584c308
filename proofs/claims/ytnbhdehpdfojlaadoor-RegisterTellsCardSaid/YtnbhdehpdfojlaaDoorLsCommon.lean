/-
  Common and Prefix, of package lists and of the document.
-/
import Derived.Test.YtnbhdehpdfojlaaDoorLsMath
import Derived.Lib.MinMax
namespace Go.Proofs.YtnbhdehpdfojlaaDoor
open Go.RowKit
theorem en_part {x y : En} (h : x ≠ y) : (x.ep ≠ y.ep) ∨ (x.ep = y.ep ∧ x.o.id ≠ y.o.id) ∨ (x.ep = y.ep ∧ x.o.id = y.o.id ∧ x.o.st ≠ y.o.st) ∨ (x.ep = y.ep ∧ x.o.id = y.o.id ∧ x.o.st = y.o.st ∧ x.o.ex ≠ y.o.ex) ∨
    (x.ep = y.ep ∧ x.o.id = y.o.id ∧ x.o.st = y.o.st ∧ x.o.ex = y.o.ex ∧ x.o.ki ≠ y.o.ki) ∨ (x.ep = y.ep ∧ x.o.id = y.o.id ∧ x.o.st = y.o.st ∧ x.o.ex = y.o.ex ∧ x.o.ki = y.o.ki ∧ x.o.ar ≠ y.o.ar) := by
  obtain ⟨a0, a1, a2, a3, a4, a5⟩ := x
  obtain ⟨b0, b1, b2, b3, b4, b5⟩ := y
  simp only [ne_eq, En.mk.injEq, Od.mk.injEq] at h
  simp only
  omega
set_option maxRecDepth 100000 in
set_option maxHeartbeats 1000000 in
theorem common_any {va vb : Value} {B B' : Nat} {es fs : List En} {w : World} (ha : EsB B w va es) (hb : EsB B' w vb fs) : Calls Tryd.prog 33 #[va, vb] w (NumPost (.int .i64 (cp es fs)) w) := by
  have HCA := Lib.hid (fun k hk => EsB.cells ha (k := k) hk)
  have HCB := Lib.hid (fun k hk => EsB.cells hb (k := k) hk)
  obtain ⟨A, ca, rfl, h1, h2, -⟩ := ha.len
  obtain ⟨A', cb, rfl, h1', h2', -⟩ := hb.len
  have hl : es.length ≤ maxLen := by omega
  have hl' : fs.length ≤ maxLen := by omega
  unfold maxLen at hl hl'
  clear ha hb h2 h2'
  obtain ⟨m, hm1, hm2, hm3, hm⟩ : ∃ m : Nat, m ≤ es.length ∧ m ≤ fs.length ∧ Hid (m = es.length ∨ m = fs.length) ∧ min (es.length : Int) (fs.length : Int) = (m : Int) := ⟨min es.length fs.length, by omega, by omega, Lib.hid (by omega), by omega⟩
  go_enter Tryd.func33, Tryd.ntmps33
  go_wp2
  clear hm
  go_loopw [4, 13] (fun r i wr => ∃ k : Nat, k ≤ m ∧ r = .int .i64 0 ∧ i = .int .i64 k ∧ Hid (k ≤ cp es fs) ∧ Still w wr) (fun _ i _ => m - (intOf i).toNat)
  case atStart => exact ⟨0, Nat.zero_le _, rfl, rfl, Lib.hid (Nat.zero_le _), Still.refl _⟩
  case round =>
    obtain ⟨k, hk, rfl, rfl, hcp, hst⟩ := hrel
    by_cases hlt : k < m
    · obtain ⟨b1, o1, c1, hv1, _, x0, x1, x2, x3, x4, x5⟩ := HCA.out k (by omega)
      obtain ⟨b2, o2, c2, hv2, _, y0, y1, y2, y3, y4, y5⟩ := HCB.out k (by omega)
      injection hv1 with e1 _ e3
      injection hv2 with e2 _ e4
      subst e1 e2 e3 e4
      have x0 := (hst.cell ⟨b1, o1 + k * 6, none⟩).trans x0
      have y0 := (hst.cell ⟨b2, o2 + k * 6, none⟩).trans y0
      have x1 := (hst.cell ⟨b1, o1 + k * 6 + 1, none⟩).trans x1
      have y1 := (hst.cell ⟨b2, o2 + k * 6 + 1, none⟩).trans y1
      have x2 := (hst.cell ⟨b1, o1 + k * 6 + 2, none⟩).trans x2
      have y2 := (hst.cell ⟨b2, o2 + k * 6 + 2, none⟩).trans y2
      have x3 := (hst.cell ⟨b1, o1 + k * 6 + 3, none⟩).trans x3
      have y3 := (hst.cell ⟨b2, o2 + k * 6 + 3, none⟩).trans y3
      have x4 := (hst.cell ⟨b1, o1 + k * 6 + 4, none⟩).trans x4
      have y4 := (hst.cell ⟨b2, o2 + k * 6 + 4, none⟩).trans y4
      have x5 := (hst.cell ⟨b1, o1 + k * 6 + 5, none⟩).trans x5
      have y5 := (hst.cell ⟨b2, o2 + k * 6 + 5, none⟩).trans y5
      have hii : (k : Int) < (es.length : Int) := by omega
      have hjj : (k : Int) < (fs.length : Int) := by omega
      have hkm : (k : Int) < (m : Int) := by omega
      have HS := Lib.hid (cp_step es fs k hcp.out (by omega) (by omega))
      clear HCA HCB hcp
      generalize es[k] = x at *
      generalize fs[k] = y at *
      by_cases he : x = y
      · subst he
        have hn := Lib.hid (HS.out.1 rfl)
        clear HS
        obtain ⟨z0, z1, z2, z3, z4, z5⟩ := x
        dsimp only at x0 x1 x2 x3 x4 x5 y0 y1 y2 y3 y4 y5
        go_wp2
        go_quiet (fail)
        go_wp2
        go_roundw
        case rel => exact ⟨k + 1, by omega, rfl, by go_num, hn, hst.drewN _⟩
        case measure => simp [intOf]; omega
      · have hn := Lib.hid (HS.out.2 he)
        have hp := en_part he
        clear HS he
        obtain ⟨p0, p1, p2, p3, p4, p5⟩ := x
        obtain ⟨q0, q1, q2, q3, q4, q5⟩ := y
        dsimp only at x0 x1 x2 x3 x4 x5 y0 y1 y2 y3 y4 y5 hp
        have hret : ∀ n, NumPost (.int .i64 (cp es fs)) w (.returned (.int .i64 k)) (wr.drewN n) := fun n => ⟨by rw [hn.out], hst.drewN n _⟩
        rcases hp with h | ⟨rfl, h⟩ | ⟨rfl, rfl, h⟩ | ⟨rfl, rfl, rfl, h⟩ | ⟨rfl, rfl, rfl, rfl, h⟩ | ⟨rfl, rfl, rfl, rfl, rfl, h⟩ <;>
        · have hb := beq_eq_false_iff_ne.2 h
          clear h
          go_wp2
          go_quiet (fail)
          go_wp2
          go_ret
          exact hret _
    · obtain rfl : k = m := by omega
      have hc := Lib.hid (cp_end hcp.out hm3.out)
      go_wp2
      go_ret
      exact ⟨by rw [hc.out]; rfl, hst _⟩
end Go.Proofs.YtnbhdehpdfojlaaDoor
