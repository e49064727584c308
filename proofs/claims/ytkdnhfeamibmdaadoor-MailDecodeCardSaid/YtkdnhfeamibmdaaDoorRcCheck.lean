/-
  Check of package records.
-/
import Derived.Test.YtkdnhfeamibmdaaDoorRcAllow
namespace Go.Proofs.YtkdnhfeamibmdaaDoor
open Go.RowKit
theorem all_no {α : Type} {f : α → Bool} {l : List α} {k : Nat} (hk : k < l.length) (h : f l[k] = false) : l.all f = false := by
  rw [List.all_eq_false]
  exact ⟨l[k], List.getElem_mem hk, by rw [h]; simp⟩
theorem all_step {α : Type} {f : α → Bool} {l : List α} {k : Nat} (hk : k < l.length) (h : (l.take k).all f = true) (h2 : f l[k] = true) : (l.take (k + 1)).all f = true := by
  rw [List.take_succ_eq_append_getElem hk, List.all_append, h]
  simp [h2]
set_option maxRecDepth 100000 in
set_option maxHeartbeats 4000000 in
theorem recCheck_any (r : Rec) {ve vf : Value} {w : World} (hA : AskR w) (hE : EsB w.heap.size w ve r.es) (hF : FdB w.heap.size w vf r.fd) (hn : r.es.length ≤ 100000) (hm : r.fd.length ≤ 100000) :
    Calls Tryd.prog 10 #[r.v ve vf] w (NumPost (.int .i64 r.err) w) := by
  have HM : Hid (r.err = if decide (numsM r.ki r.st r.ep r.vi r.fr r.le r.es.length r.fd.length) && (r.es.all (En.may r.st) && r.fd.all Sp.may) then 0 else 2) := rfl
  generalize r.err = er at *
  obtain ⟨ki, st, ep, vi, fr, le, es, fd⟩ := r
  dsimp only [Rec.v] at *
  have HCE := Lib.hid (fun X (hb : Below w.heap.size w X) k (hk : k < es.length) => EsB.cells (hE.below hb (Nat.le_refl _)) hk)
  have HCF := Lib.hid (fun X (hb : Below w.heap.size w X) k (hk : k < fd.length) => FdB.cells (hF.below hb (Nat.le_refl _)) hk)
  obtain ⟨A, c, rfl, h1, h2, -⟩ := hE.len
  obtain ⟨A', c', rfl, k1, k2, -⟩ := hF.len
  unfold maxLen at h2 k2
  clear hE hF
  obtain ⟨w0, HW0⟩ : ∃ w0, Hid (w0 = w.alloc (.cells #[.int .i64 ki, .int .i64 st, .int .i64 ep, .int .i64 vi, .int .i64 fr, .int .i64 le, .slice A es.length c, .slice A' fd.length c'] 25)) := ⟨_, Lib.hid rfl⟩
  have hb0 : Below w.heap.size w w0 := by rw [HW0.out]; exact (Below.refl _ _).alloc (Nat.le_refl _) _
  have hs0 : w0.heap.size = w.heap.size + 1 := by rw [HW0.out]; simp
  have B0 : w0.heap[w.heap.size]? = some (.cells #[.int .i64 ki, .int .i64 st, .int .i64 ep, .int .i64 vi, .int .i64 fr, .int .i64 le, .slice A es.length c, .slice A' fd.length c'] 25 (0, 0)) := by rw [HW0.out]; exact heap_alloc_new _ _
  have HA := Lib.hid (askedOf_any ki es.length w0 (hA.keep hb0) (by omega))
  rw [HW0.out] at HA
  have HL := Lib.hid allow_any
  have HIE := Lib.hid isEntry_any
  have HIS := Lib.hid isSpot_any
  have HAK := Lib.hid (fun X (hb : Below w.heap.size w X) => hA.keep hb)
  clear hA
  go_enter Tryd.func10, Tryd.ntmps10
  go_wp2_with fail
  refine (HA.out).mono ?_
  rintro e w1 ⟨s0, s1, e0, e1, v0, v1, f0, f1, l0, l1, n0, n1, m0, m1, ok, rfl, HOK, hb1⟩
  rw [← HW0.out] at hb1
  have hsz1 := hb1.size
  have B1 := (hb1.block w.heap.size (by omega)).trans B0
  have HB1 := Lib.hid (hb0.trans (hb1.mono hb0.size))
  have c0 : w1.cell? ⟨w.heap.size, 0, none⟩ = some (.int .i64 ki) := by rw [Lib.cell_of_heap B1]; rfl
  have c1 : w1.cell? ⟨w.heap.size, 1, none⟩ = some (.int .i64 st) := by rw [Lib.cell_of_heap B1]; rfl
  have c2 : w1.cell? ⟨w.heap.size, 2, none⟩ = some (.int .i64 ep) := by rw [Lib.cell_of_heap B1]; rfl
  have c3 : w1.cell? ⟨w.heap.size, 3, none⟩ = some (.int .i64 vi) := by rw [Lib.cell_of_heap B1]; rfl
  have c4 : w1.cell? ⟨w.heap.size, 4, none⟩ = some (.int .i64 fr) := by rw [Lib.cell_of_heap B1]; rfl
  have c5 : w1.cell? ⟨w.heap.size, 5, none⟩ = some (.int .i64 le) := by rw [Lib.cell_of_heap B1]; rfl
  have c6 : w1.cell? ⟨w.heap.size, 6, none⟩ = some (.slice A es.length c) := by rw [Lib.cell_of_heap B1]; rfl
  have c7 : w1.cell? ⟨w.heap.size, 7, none⟩ = some (.slice A' fd.length c') := by rw [Lib.cell_of_heap B1]; rfl
  have hlt1 : w.heap.size < w1.heap.size := by omega
  have HOK2 := Lib.hid (HOK.out st ep vi fr le fd.length)
  have HBX := Lib.hid B1
  clear B1 B0 hb0 hb1 HA HOK
  cases ok
  · have HN : Hid (decide (numsM ki st ep vi fr le es.length fd.length) = false) := HOK2.out.symm.trans rfl
    go_wp2_with fail
    go_ret
    exact ⟨by rw [HM.out, HN.out]; rfl, by repeat' (first | (with_reducible exact HB1.out) | (with_reducible refine below_drewN ?_ _) | (with_reducible refine Below.alloc ?_ ?_ _) | (with_reducible refine Below.setCell ?_ ?_ _) | go_size)⟩
  obtain ⟨w2, HW2⟩ : ∃ w2, Hid (w2 = w1.alloc (.cells #[.int .i64 s0, .int .i64 s1, .int .i64 e0, .int .i64 e1, .int .i64 v0, .int .i64 v1, .int .i64 f0, .int .i64 f1, .int .i64 l0, .int .i64 l1, .int .i64 n0, .int .i64 n1, .int .i64 m0, .int .i64 m1] 74)) := ⟨_, Lib.hid rfl⟩
  have hb2 : Below w1.heap.size w1 w2 := by rw [HW2.out]; exact (Below.refl _ _).alloc (Nat.le_refl _) _
  have HB2 := Lib.hid (HB1.out.trans (hb2.mono (by omega)))
  have HX2 := Lib.hid ((hb2.block w.heap.size hlt1).trans HBX.out)
  have HS2 := Lib.hid (show w.heap.size < w2.heap.size by have := hb2.size; omega)
  have HAL := Lib.hid (HL.out s0 s1 e0 e1 v0 v1 f0 f1 l0 l1 n0 n1 m0 m1 ki st ep vi fr le es.length fd.length c c' A A' w2)
  have HN : Hid (allowB s0 s1 e0 e1 v0 v1 f0 f1 l0 l1 n0 n1 m0 m1 st ep vi fr le es.length fd.length = decide (numsM ki st ep vi fr le es.length fd.length)) := HOK2.out
  rw [HN.out] at HAL
  rw [HW2.out] at HAL
  clear hb2 HOK2 HN
  generalize decide (numsM ki st ep vi fr le es.length fd.length) = nb at *
  go_wp2_with fail
  refine (HAL.out).mono ?_
  rintro e w3 ⟨rfl, hb3⟩
  rw [← HW2.out] at hb3
  have hsz3 := hb3.size
  have hsz2 := HS2.out
  have HX3 := Lib.hid ((hb3.block w.heap.size hsz2).trans HX2.out)
  have HB3 := Lib.hid (HB2.out.trans (hb3.mono (by omega)))
  have hlt3 : w.heap.size < w3.heap.size := by omega
  clear hb3 c0 c1 c2 c3 c4 c5 c6 c7 HAL
  cases nb
  · go_wp2_with fail
    go_ret
    exact ⟨by rw [HM.out]; rfl, HB3.out⟩
  have c6 : w3.cell? ⟨w.heap.size, 6, none⟩ = some (.slice A es.length c) := by rw [Lib.cell_of_heap HX3.out]; rfl
  go_wp2_with fail
  go_loopw [29] (fun i wr => ∃ k : Nat, k ≤ es.length ∧ i = .int .i64 k ∧ (es.take k).all (En.may st) = true ∧ Below w3.heap.size w3 wr) (fun i _ => es.length - (intOf i).toNat)
  case atStart => exact ⟨0, Nat.zero_le _, rfl, rfl, Below.refl _ _⟩
  case round =>
    obtain ⟨k, hk, rfl, hall, hbel⟩ := hrel
    have HALL := Lib.hid hall
    have HBE := Lib.hid (HB3.out.trans (hbel.mono (by omega)))
    have HXr := Lib.hid ((hbel.block w.heap.size hlt3).trans HX3.out)
    have hszr := hbel.size
    have hltr : w.heap.size < wr.heap.size := by omega
    by_cases hlt : k < es.length
    · obtain ⟨b1, o1, c1', hv, hbb1, x0, x1, x2, x3, x4, x5⟩ := HCE.out wr HBE.out k hlt
      injection hv with e1 _ e3
      subst e1 e3
      have hii : (k : Int) < (es.length : Int) := by omega
      have HNO := Lib.hid (fun h => all_no (f := En.may st) hlt h)
      have HYES := Lib.hid (fun h => all_step (f := En.may st) hlt HALL.out h)
      have HIE2 := Lib.hid (HIE.out es[k] st)
      have p1 : wr.cell? ⟨w.heap.size, 1, none⟩ = some (.int .i64 st) := by rw [Lib.cell_of_heap HXr.out]; rfl
      generalize es[k] = x at *
      have hba : Below wr.heap.size wr (wr.alloc (.cells #[.int .i64 x.ep, .int .i64 x.o.id, .int .i64 x.o.st, .int .i64 x.o.ex, .int .i64 x.o.ki, .int .i64 x.o.ar] 30)) := (Below.refl _ _).alloc (Nat.le_refl _) _
      have HBA := Lib.hid (HBE.out.trans (hba.mono (by omega)))
      have HBA3 := Lib.hid (hbel.trans (hba.mono (by omega)))
      have G := Lib.hid (HIE2.out _ (HAK.out _ HBA.out))
      clear hba hall hbel HIE2
      go_wp2_with fail
      refine (G.out).mono ?_
      rintro e w4 ⟨rfl, hb4⟩
      have HB4 := Lib.hid (HBA.out.trans (hb4.mono HBA.out.size))
      have HB43 := Lib.hid (HBA3.out.trans (hb4.mono HBA3.out.size))
      clear hb4
      rcases hmm : En.may st x with _ | _
      · have HX := Lib.hid (HNO.out hmm)
        clear hmm
        go_wp2_with fail
        go_ret
        exact ⟨by rw [HM.out, HX.out]; rfl, HB4.out⟩
      · have HX := Lib.hid (HYES.out hmm)
        clear hmm
        go_wp2_with fail
        go_roundw
        case rel => exact ⟨k + 1, by omega, by go_num, HX.out, HB43.out⟩
        case measure => simp [intOf]; omega
    · have HX : Hid (es.all (En.may st) = true) := by show _ = _; rw [← HALL.out, List.take_of_length_le (by omega)]
      have c7 : wr.cell? ⟨w.heap.size, 7, none⟩ = some (.slice A' fd.length c') := by rw [Lib.cell_of_heap HXr.out]; rfl
      clear hall hbel c6 HALL
      go_wp2_with fail
      clear hlt hk
      go_loopw [42] (fun i wz => ∃ k : Nat, k ≤ fd.length ∧ i = .int .i64 k ∧ (fd.take k).all Sp.may = true ∧ Below wr.heap.size wr wz) (fun i _ => fd.length - (intOf i).toNat)
      case atStart => exact ⟨0, Nat.zero_le _, rfl, rfl, Below.refl _ _⟩
      case round =>
        obtain ⟨k, hk, rfl, hall, hbel⟩ := hrel
        have HALL := Lib.hid hall
        have HBE := Lib.hid (HBE.out.trans (hbel.mono (by omega)))
        by_cases hlt : k < fd.length
        · obtain ⟨b1, o1, c1', hv, hbb1, x0, x1⟩ := HCF.out _ HBE.out k hlt
          injection hv with e1 _ e3
          subst e1 e3
          have hii : (k : Int) < (fd.length : Int) := by omega
          have HNO := Lib.hid (fun h => all_no (f := Sp.may) hlt h)
          have HYES := Lib.hid (fun h => all_step (f := Sp.may) hlt HALL.out h)
          have HIE2 := Lib.hid (HIS.out fd[k])
          generalize fd[k] = x at *
          have hsb := hbel.size
          have HBA := Lib.hid (HBE.out.trans (((Below.refl _ _).alloc (Nat.le_refl _) (.cells #[.int .i64 x.st, .int .i64 x.ix] 32)).mono (by have := HBE.out.size; omega)))
          have HBA3 := Lib.hid (hbel.trans (((Below.refl _ _).alloc (Nat.le_refl _) (.cells #[.int .i64 x.st, .int .i64 x.ix] 32)).mono (by omega)))
          have G := Lib.hid (HIE2.out _ (HAK.out _ HBA.out))
          clear hall hbel HIE2 HIE
          go_wp2_with fail
          refine (G.out).mono ?_
          rintro e w4 ⟨rfl, hb4⟩
          have HB4 := Lib.hid (HBA.out.trans (hb4.mono HBA.out.size))
          have HB43 := Lib.hid (HBA3.out.trans (hb4.mono HBA3.out.size))
          clear hb4
          rcases hmm : Sp.may x with _ | _
          · have HY := Lib.hid (HNO.out hmm)
            clear hmm
            go_wp2_with fail
            go_ret
            exact ⟨by rw [HM.out, HX.out, HY.out]; rfl, HB4.out⟩
          · have HY := Lib.hid (HYES.out hmm)
            clear hmm
            go_wp2_with fail
            go_roundw
            case rel => exact ⟨k + 1, by omega, by go_num, HY.out, HB43.out⟩
            case measure => simp [intOf]; omega
        · have HY : Hid (fd.all Sp.may = true) := by show _ = _; rw [← HALL.out, List.take_of_length_le (by omega)]
          clear hall hbel HALL
          go_wp2_with fail
          go_ret
          exact ⟨by rw [HM.out, HX.out, HY.out]; rfl, HBE.out⟩
end Go.Proofs.YtkdnhfeamibmdaaDoor
