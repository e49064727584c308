/-
  putAll of package records, at entries and at spots.
-/
import Derived.Test.YtkdnhfeamibmdaaDoorRcPuts
namespace Go.Proofs.YtkdnhfeamibmdaaDoor
open Go.RowKit
theorem esL_take {es : List En} {k : Nat} (hk : k < es.length) : markL ((es.length : Int) :: ((es.take (k + 1)).map En.l).flatten) = markL ((es.length : Int) :: ((es.take k).map En.l).flatten) ++ markL es[k].l := by
  rw [List.take_succ_eq_append_getElem hk, List.map_append, List.flatten_append, ← markL_append]
  simp
theorem esL_bd {es : List En} (hi : ∀ x ∈ es, IntsOk x.l) (hn : es.length ≤ 256) (k : Nat) : (markL ((es.length : Int) :: ((es.take k).map En.l).flatten)).length ≤ 20000 := by
  have h1 : IntsOk ((es.length : Int) :: ((es.take k).map En.l).flatten) := by
    intro n hn'
    rcases List.mem_cons.1 hn' with rfl | hn'
    · omega
    · obtain ⟨r, hr, hn'⟩ := List.mem_flatten.1 hn'
      obtain ⟨x, hx, rfl⟩ := List.mem_map.1 hr
      exact hi x (List.mem_of_mem_take hx) n hn'
  have h2 := (markL_len h1).2
  have h3 := flatten_len (rows := (es.take k).map En.l) (k := 6) (fun x hx => by obtain ⟨e, _, rfl⟩ := List.mem_map.1 hx; rfl)
  rw [List.length_cons, h3, List.length_map, List.length_take] at h2
  have h4 : min k es.length ≤ 256 := by omega
  have h5 : min k es.length * 6 ≤ 256 * 6 := Nat.mul_le_mul_right _ h4
  omega
set_option maxRecDepth 100000 in
set_option maxHeartbeats 2000000 in
theorem putAll_es {B b p : Nat} {l : List UInt8} {w : World} {v : Value} {es : List En} (hE : EsB B w v es) (h : Bld B b l w) (hp : PutVar w p b) (hpb : p ≠ b) (hi : ∀ x ∈ es, IntsOk x.l) (hn : es.length ≤ 256) (hlen : l.length ≤ 100000) (hBw : B ≤ w.heap.size) :
    Calls Tryd.prog 27 #[v, .func (.func 24) #[] #[.pointer (some ⟨b, 0, none⟩)], .func (.func 28) #[] #[.pointer (some ⟨p, 0, none⟩)]] w (PcPost B b (l ++ markL (esL es)) w) := by
  have HC := Lib.hid (fun X (hb : Below B w X) k (hk : k < es.length) => EsB.cells (hE.below hb (Nat.le_refl _)) hk)
  obtain ⟨A, c, rfl, h1, h2, h3⟩ := hE.len
  unfold maxLen at h2
  have HI := Lib.hid hi
  have HLB := Lib.hid (fun k => esL_bd hi hn k)
  have HN : Hid (es.length ≤ 256) := hn
  have hbl := h.lt
  have hb0 : Below w.heap.size w (w.alloc (.cells #[.int .i64 (es.length : Int)] 3)) := (Below.refl _ _).alloc (Nat.le_refl _) _
  have hr : IntRow (w.alloc (.cells #[.int .i64 (es.length : Int)] 3)) w.heap.size [(es.length : Int)] := heap_alloc_new _ _
  have G := Lib.hid (put_clo (h.later hb0) hr (by omega) (fun n hn' => by simp at hn'; omega) (by simp) (by omega) (Nat.le_trans hBw hb0.size))
  have HP0 := Lib.hid (hp.below hb0)
  have HBB := Lib.hid (show Below B w (w.alloc (.cells #[.int .i64 (es.length : Int)] 3)) from hb0.mono hBw)
  have HKB := Lib.hid (BKept.below hb0 : BKept b w _)
  have HPB := Lib.hid hpb
  clear hE h hp hpb hi hb0 hr hbl hn
  go_enter Tryd.func27, Tryd.ntmps27
  go_wp2_with fail
  refine (G.out).mono ?_
  rintro e w1 ⟨rfl, hb1, he1, hk1⟩
  have HB1 := Lib.hid hb1
  have HE1 := Lib.hid (HBB.out.trans he1)
  have HP1 := Lib.hid (HP0.out.kept hk1 HPB.out)
  have HK1 := Lib.hid (HKB.out.trans hk1)
  clear hb1 he1 hk1
  go_wp2_with fail
  go_loopw [15] (fun i wr => ∃ k : Nat, k ≤ es.length ∧ i = .int .i64 k ∧ Bld B b (l ++ markL ((es.length : Int) :: ((es.take k).map En.l).flatten)) wr ∧ Below B w wr ∧ BKept b w1 wr) (fun i _ => es.length - (intOf i).toNat)
  case atStart => exact ⟨0, Nat.zero_le _, rfl, by simpa [markL] using HB1.out, HE1.out, BKept.refl _ _⟩
  case round =>
    obtain ⟨k, hk, rfl, hbl, hbel, hkp⟩ := hrel
    by_cases hlt : k < es.length
    · obtain ⟨b1, o1, c1, hv, hB1, x0, x1, x2, x3, x4, x5⟩ := HC.out wr hbel k hlt
      injection hv with e1 _ e3
      subst e1 e3
      have hii : (k : Int) < (es.length : Int) := by omega
      have HT := Lib.hid (esL_take hlt)
      have hll := HLB.out k
      have hix := HI.out es[k] (List.getElem_mem hlt)
      generalize es[k] = x at *
      have hsb := hbel.size
      have hba : Below wr.heap.size wr (wr.alloc (.cells #[.int .i64 x.ep, .int .i64 x.o.id, .int .i64 x.o.st, .int .i64 x.o.ex, .int .i64 x.o.ki, .int .i64 x.o.ar] 30)) := (Below.refl _ _).alloc (Nat.le_refl _) _
      have G := Lib.hid (put_entry x (hbl.later hba) ((HP1.out.kept hkp HPB.out).below hba) hix (by rw [List.length_append]; omega) (by have := hba.size; omega))
      have HBE := Lib.hid (hbel.trans (hba.mono (by omega)))
      have HKP := Lib.hid (hkp.trans (BKept.below hba))
      clear hbl hbel hkp hix hba
      go_wp2_with fail
      refine (G.out).mono ?_
      rintro e w2 ⟨rfl, hb2, he2, hk2⟩
      have HB2 := Lib.hid hb2
      have HE2 := Lib.hid (HBE.out.trans he2)
      have HK2 := Lib.hid (HKP.out.trans hk2)
      clear hb2 he2 hk2
      go_wp2_with fail
      go_roundw
      case rel => exact ⟨k + 1, by omega, by go_num, by rw [HT.out, ← List.append_assoc]; exact HB2.out, HE2.out, HK2.out⟩
      case measure => simp [intOf]; omega
    · have HX : Hid (l ++ markL ((es.length : Int) :: ((es.take k).map En.l).flatten) = l ++ markL (esL es)) := by show _ = _; rw [List.take_of_length_le (by omega)]; rfl
      have HBL := Lib.hid hbl
      clear hbl
      go_wp2_with fail
      go_end0
      exact ⟨rfl, HX.out ▸ HBL.out, hbel, HK1.out.trans hkp⟩
theorem fdL_take {es : List Sp} {k : Nat} (hk : k < es.length) : markL ((es.length : Int) :: ((es.take (k + 1)).map Sp.l).flatten) = markL ((es.length : Int) :: ((es.take k).map Sp.l).flatten) ++ markL es[k].l := by
  rw [List.take_succ_eq_append_getElem hk, List.map_append, List.flatten_append, ← markL_append]
  simp
theorem fdL_bd {es : List Sp} (hi : ∀ x ∈ es, IntsOk x.l) (hn : es.length ≤ 256) (k : Nat) : (markL ((es.length : Int) :: ((es.take k).map Sp.l).flatten)).length ≤ 20000 := by
  have h1 : IntsOk ((es.length : Int) :: ((es.take k).map Sp.l).flatten) := by
    intro n hn'
    rcases List.mem_cons.1 hn' with rfl | hn'
    · omega
    · obtain ⟨r, hr, hn'⟩ := List.mem_flatten.1 hn'
      obtain ⟨x, hx, rfl⟩ := List.mem_map.1 hr
      exact hi x (List.mem_of_mem_take hx) n hn'
  have h2 := (markL_len h1).2
  have h3 := flatten_len (rows := (es.take k).map Sp.l) (k := 2) (fun x hx => by obtain ⟨e, _, rfl⟩ := List.mem_map.1 hx; rfl)
  rw [List.length_cons, h3, List.length_map, List.length_take] at h2
  have h4 : min k es.length ≤ 256 := by omega
  have h5 : min k es.length * 2 ≤ 256 * 2 := Nat.mul_le_mul_right _ h4
  omega
set_option maxRecDepth 100000 in
set_option maxHeartbeats 2000000 in
theorem putAll_fd {B b p : Nat} {l : List UInt8} {w : World} {v : Value} {es : List Sp} (hE : FdB B w v es) (h : Bld B b l w) (hp : PutVar w p b) (hpb : p ≠ b) (hi : ∀ x ∈ es, IntsOk x.l) (hn : es.length ≤ 256) (hlen : l.length ≤ 100000) (hBw : B ≤ w.heap.size) :
    Calls Tryd.prog 29 #[v, .func (.func 24) #[] #[.pointer (some ⟨b, 0, none⟩)], .func (.func 30) #[] #[.pointer (some ⟨p, 0, none⟩)]] w (PcPost B b (l ++ markL (fdL es)) w) := by
  have HC := Lib.hid (fun X (hb : Below B w X) k (hk : k < es.length) => FdB.cells (hE.below hb (Nat.le_refl _)) hk)
  obtain ⟨A, c, rfl, h1, h2, h3⟩ := hE.len
  unfold maxLen at h2
  have HI := Lib.hid hi
  have HLB := Lib.hid (fun k => fdL_bd hi hn k)
  have HN : Hid (es.length ≤ 256) := hn
  have hbl := h.lt
  have hb0 : Below w.heap.size w (w.alloc (.cells #[.int .i64 (es.length : Int)] 3)) := (Below.refl _ _).alloc (Nat.le_refl _) _
  have hr : IntRow (w.alloc (.cells #[.int .i64 (es.length : Int)] 3)) w.heap.size [(es.length : Int)] := heap_alloc_new _ _
  have G := Lib.hid (put_clo (h.later hb0) hr (by omega) (fun n hn' => by simp at hn'; omega) (by simp) (by omega) (Nat.le_trans hBw hb0.size))
  have HP0 := Lib.hid (hp.below hb0)
  have HBB := Lib.hid (show Below B w (w.alloc (.cells #[.int .i64 (es.length : Int)] 3)) from hb0.mono hBw)
  have HKB := Lib.hid (BKept.below hb0 : BKept b w _)
  have HPB := Lib.hid hpb
  clear hE h hp hpb hi hb0 hr hbl hn
  go_enter Tryd.func29, Tryd.ntmps29
  go_wp2_with fail
  refine (G.out).mono ?_
  rintro e w1 ⟨rfl, hb1, he1, hk1⟩
  have HB1 := Lib.hid hb1
  have HE1 := Lib.hid (HBB.out.trans he1)
  have HP1 := Lib.hid (HP0.out.kept hk1 HPB.out)
  have HK1 := Lib.hid (HKB.out.trans hk1)
  clear hb1 he1 hk1
  go_wp2_with fail
  go_loopw [15] (fun i wr => ∃ k : Nat, k ≤ es.length ∧ i = .int .i64 k ∧ Bld B b (l ++ markL ((es.length : Int) :: ((es.take k).map Sp.l).flatten)) wr ∧ Below B w wr ∧ BKept b w1 wr) (fun i _ => es.length - (intOf i).toNat)
  case atStart => exact ⟨0, Nat.zero_le _, rfl, by simpa [markL] using HB1.out, HE1.out, BKept.refl _ _⟩
  case round =>
    obtain ⟨k, hk, rfl, hbl, hbel, hkp⟩ := hrel
    by_cases hlt : k < es.length
    · obtain ⟨b1, o1, c1, hv, hB1, x0, x1⟩ := HC.out wr hbel k hlt
      injection hv with e1 _ e3
      subst e1 e3
      have hii : (k : Int) < (es.length : Int) := by omega
      have HT := Lib.hid (fdL_take hlt)
      have hll := HLB.out k
      have hix := HI.out es[k] (List.getElem_mem hlt)
      generalize es[k] = x at *
      have hsb := hbel.size
      have hba : Below wr.heap.size wr (wr.alloc (.cells #[.int .i64 x.st, .int .i64 x.ix] 32)) := (Below.refl _ _).alloc (Nat.le_refl _) _
      have G := Lib.hid (put_spot x (hbl.later hba) ((HP1.out.kept hkp HPB.out).below hba) hix (by rw [List.length_append]; omega) (by have := hba.size; omega))
      have HBE := Lib.hid (hbel.trans (hba.mono (by omega)))
      have HKP := Lib.hid (hkp.trans (BKept.below hba))
      clear hbl hbel hkp hix hba
      go_wp2_with fail
      refine (G.out).mono ?_
      rintro e w2 ⟨rfl, hb2, he2, hk2⟩
      have HB2 := Lib.hid hb2
      have HE2 := Lib.hid (HBE.out.trans he2)
      have HK2 := Lib.hid (HKP.out.trans hk2)
      clear hb2 he2 hk2
      go_wp2_with fail
      go_roundw
      case rel => exact ⟨k + 1, by omega, by go_num, by rw [HT.out, ← List.append_assoc]; exact HB2.out, HE2.out, HK2.out⟩
      case measure => simp [intOf]; omega
    · have HX : Hid (l ++ markL ((es.length : Int) :: ((es.take k).map Sp.l).flatten) = l ++ markL (fdL es)) := by show _ = _; rw [List.take_of_length_le (by omega)]; rfl
      have HBL := Lib.hid hbl
      clear hbl
      go_wp2_with fail
      go_end0
      exact ⟨rfl, HX.out ▸ HBL.out, hbel, HK1.out.trans hkp⟩
end Go.Proofs.YtkdnhfeamibmdaaDoor
