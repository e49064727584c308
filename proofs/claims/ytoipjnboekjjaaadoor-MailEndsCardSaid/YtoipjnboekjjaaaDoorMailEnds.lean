/-
  The law MailEnds: for every input the call returns true, and each argument reads afterwards as it read before. No condition.
-/
import Derived.Test.YtoipjnboekjjaaaDoorMlWorks
import Derived.Test.YtoipjnboekjjaaaDoorCards
import Derived.Test.YtoipjnboekjjaaaDoorTie
import Derived.Test.YtoipjnboekjjaaaDoorMlLaid
import Derived.WalkKit
import Derived.Deep.DeepHandedRow
import Derived.Lib.LaidTab
import Derived.ProofKit
import Derived.OpenShut
import Derived.ShutString
namespace Go.Proofs.YtoipjnboekjjaaaDoor.mailEndsW
open Go.RowKit
def hasS (ki : Int) : Bool := decide (ki = 1 ∨ ki = 2 ∨ ki = 4 ∨ ki = 5)
theorem bit5 (ki ep : Int) : (bitsK ki ep).testBit 5 = hasS ki := by
  unfold bitsK hasS
  repeat' split
  all_goals first | (subst_vars; decide +kernel) | simp [*]
theorem err_of {m : Ml} {n : Int} {p : Prop} [Decidable p] (h : m.may n = decide p) : m.err n = if p then 0 else 2 := by
  unfold Ml.err
  rw [h]
  simp
theorem err_fr {m : Ml} {n : Int} (h : m.may n = true) (e : Int) : ({ m with fr := e } : Ml).err n = if 0 ≤ e ∧ e < n then 0 else 2 := by
  refine err_of ?_
  unfold Ml.may at h ⊢
  dsimp only
  rw [Bool.and_eq_true] at h
  rw [h.2, Bool.and_true]
  have h1 := h.1
  simp only [Bool.and_eq_true, decide_eq_true_eq, isSite] at h1
  rw [Bool.eq_iff_iff]
  simp only [Bool.and_eq_true, decide_eq_true_eq, isSite]
  omega
theorem err_tt {m : Ml} {n : Int} (h : m.may n = true) (e : Int) : ({ m with tt := e } : Ml).err n = if 0 ≤ e ∧ e < n then 0 else 2 := by
  refine err_of ?_
  unfold Ml.may at h ⊢
  dsimp only
  rw [Bool.and_eq_true] at h
  rw [h.2, Bool.and_true]
  have h1 := h.1
  simp only [Bool.and_eq_true, decide_eq_true_eq, isSite] at h1
  rw [Bool.eq_iff_iff]
  simp only [Bool.and_eq_true, decide_eq_true_eq, isSite]
  omega
theorem err_sp {m : Ml} {n : Int} (h : m.may n = true) (s : Int) : ({ m with sp := s } : Ml).err n = if s = 0 ∨ (hasS m.ki = true ∧ 0 < s ∧ s ≤ 1073741824) then 0 else 2 := by
  refine err_of ?_
  unfold Ml.may at h ⊢
  dsimp only
  unfold numsA at h ⊢
  simp only [Bool.and_eq_true] at h
  obtain ⟨⟨h1, h2, h3⟩, ⟨a1, a2, a3, a4, a5, a6⟩, h5, h6, h7⟩ := h
  rw [h1, h2, h3, a1, a2, a3, a4, a5, h5, h6, h7, bit5]
  simp only [Bool.true_and, Bool.and_true]
  unfold fld inb
  cases hasS m.ki
  · simp
  · simp only [if_true]
    rw [Bool.eq_iff_iff]
    simp only [Bool.and_eq_true, decide_eq_true_eq, true_and]
    omega
section
variable {P : Program}
theorem step_store {ops : Array Oper} {o : Oper} {a : Act} {w w' : World} {K : Act → World → Prop} {Q : Exit → Act → World → Prop} {E : Prop} (hg : o.guard = none) (ty : TypeId) (x y : Operand) (ho : o.op = .store ty x y) (ad : Addr) (v : Value)
    (hx : a.eval x = .pointer (some ad)) (hy : a.eval y = v) (hr : (storeVar ty ad v).run P w = .ok () w') (hK : K (a.put o.dst undef) w') :
    if Region.wanted o (yielded ops a.tmps) = true then Oper.wp P o a w K Q else E := by
  rw [if_pos (by simp [Region.wanted, hg])]
  unfold Oper.wp execOp
  simp only [ho, hx, hy, Instr.storeAt, Instr.sureAddr, Sem.run_bind, Sem.run_pure, Result.andThen_ok, hr]
  exact hK
theorem run_load {o : Oper} {a : Act} {w : World} (ty : TypeId) (x : Operand) (ho : o.op = .load ty x) (ad : Addr) (hx : a.eval x = .pointer (some ad)) {v : Value} (hr : (loadVar ty ad).run P w = .ok v w) :
    (execOp a.eval o).run P w = .ok (.value v) w := by
  unfold execOp
  simp only [ho, hx, Instr.loadAt, Instr.sureAddr, Sem.run_bind, Sem.run_pure, Result.andThen_ok, hr]
end
theorem box_new (w : World) : ∃ w', w.alloc (.cells #[.int .i64 0, .int .i64 0, .int .i64 0, .int .i64 0, .int .i64 0, .int .i64 0, .int .i64 0, .int .i64 0, .int .i64 0, .slice none 0 0, .int .i64 0, .int .i64 0, .int .i64 0, .int .i64 0, .int .i64 0, .int .i64 0, .int .i64 0, .int .i64 0] 45 ) = w' ∧ MlBox w' w.heap.size ml0 (.slice none 0 0) ∧ Below w.heap.size w w' ∧ w.heap.size < w'.heap.size :=
  ⟨_, rfl, MlBox.new w ml0 (.slice none 0 0), (Below.refl _ _).alloc (Nat.le_refl _) _, by simp⟩
theorem stores3 {w : World} {b p q r B : Nat} {m : Ml} {A : Option Addr} {c : Nat} {u : Value} (hb : MlBox w b m (.slice A m.es.length c)) (hp : MlBox w p ml0 u) (hq : MlBox w q ml0 u) (hr : MlBox w r ml0 u)
    (hd : p ≠ q ∧ p ≠ r ∧ q ≠ r) (hlb : b < B) (hB : B ≤ p ∧ B ≤ q ∧ B ≤ r) : ∃ x y z, (storeVar 45  ⟨p, 0, none⟩ (.agg (m.cells (.slice A m.es.length c)).toArray)).run Tryd.prog w = .ok () x ∧
      (storeVar 45  ⟨q, 0, none⟩ (.agg (m.cells (.slice A m.es.length c)).toArray)).run Tryd.prog x = .ok () y ∧ (storeVar 45  ⟨r, 0, none⟩ (.agg (m.cells (.slice A m.es.length c)).toArray)).run Tryd.prog y = .ok () z ∧
      MlBox x b m (.slice A m.es.length c) ∧ MlBox y b m (.slice A m.es.length c) ∧ MlBox z b m (.slice A m.es.length c) ∧ MlBox z p m (.slice A m.es.length c) ∧ MlBox z q m (.slice A m.es.length c) ∧ MlBox z r m (.slice A m.es.length c) ∧ Below B w z := by
  obtain ⟨s1, x1⟩ := hp.store (m := m) (A := A) (n := m.es.length) (c := c)
  have f1 := Foot.row (fun j => j = p) w p (m.cells (.slice A m.es.length c)).toArray rfl
  have q1 := hq.foot f1 (fun e => hd.1 e.symm)
  have r1 := hr.foot f1 (fun e => hd.2.1 e.symm)
  have b1 := hb.foot f1 (fun e => by omega)
  obtain ⟨s2, x2⟩ := q1.store (m := m) (A := A) (n := m.es.length) (c := c)
  have f2 := Foot.row (fun j => j = q) (w.setRow p (m.cells (.slice A m.es.length c)).toArray) q (m.cells (.slice A m.es.length c)).toArray rfl
  have p2 := x1.foot f2 hd.1
  have r2 := r1.foot f2 (fun e => hd.2.2 e.symm)
  have b2 := b1.foot f2 (fun e => by omega)
  obtain ⟨s3, x3⟩ := r2.store (m := m) (A := A) (n := m.es.length) (c := c)
  have f3 := Foot.row (fun j => j = r) ((w.setRow p (m.cells (.slice A m.es.length c)).toArray).setRow q (m.cells (.slice A m.es.length c)).toArray) r (m.cells (.slice A m.es.length c)).toArray rfl
  exact ⟨_, _, _, s1, s2, s3, b1, b2, b2.foot f3 (fun e => by omega), p2.foot f3 hd.2.1, x2.foot f3 hd.2.2, x3, below_setRow (below_setRow (below_setRow (Below.refl _ _) hB.1 _) hB.2.1 _) hB.2.2 _⟩
theorem MlBox.set1 {w : World} {b : Nat} {m : Ml} {v : Value} (h : MlBox w b m v) (x : Int) : MlBox (w.setCell ⟨b, 1, none⟩ (.int .i64 x)) b { m with fr := x } v := by
  unfold MlBox
  rw [setCell_eq_setRow w b 1 _ _ _ _ h, setRow_heap w b _ _ _ _ h]
  rfl
theorem MlBox.set2 {w : World} {b : Nat} {m : Ml} {v : Value} (h : MlBox w b m v) (x : Int) : MlBox (w.setCell ⟨b, 2, none⟩ (.int .i64 x)) b { m with tt := x } v := by
  unfold MlBox
  rw [setCell_eq_setRow w b 2 _ _ _ _ h, setRow_heap w b _ _ _ _ h]
  rfl
theorem MlBox.set8 {w : World} {b : Nat} {m : Ml} {v : Value} (h : MlBox w b m v) (x : Int) : MlBox (w.setCell ⟨b, 8, none⟩ (.int .i64 x)) b { m with sp := x } v := by
  unfold MlBox
  rw [setCell_eq_setRow w b 8 _ _ _ _ h, setRow_heap w b _ _ _ _ h]
  rfl
set_option maxRecDepth 100000 in
set_option maxHeartbeats 8000000 in
theorem walk (m : Ml) (A : Option Addr) (c : Nat) (n e s : Int) (w : World) (hA : AskM w) (hE : EsB w.heap.size w (.slice A m.es.length c) m.es) (_ : m.ints) (_ : (Lit.int .i64 n).wf) :
    Calls Tryd.prog 9 #[m.v (.slice A m.es.length c), .int .i64 n, .agg #[.int .i64 e, .int .i64 s]] w fun e w' => e = .returned (.bool true) ∧ Below w.heap.size w w' := by
  obtain ⟨w0, HW0⟩ : ∃ w0, Hid ((w.alloc (.cells (m.cells (.slice A m.es.length c)).toArray 45 )).alloc (.cells #[.int .i64 e, .int .i64 s] 56 ) = w0) := ⟨_, Lib.hid rfl⟩
  have hb0 : Below w.heap.size w w0 := by rw [← HW0.out]; exact ((Below.refl _ _).alloc (Nat.le_refl _) _).alloc (by simp) _
  have X0 : MlBox w0 w.heap.size m (.slice A m.es.length c) := by rw [← HW0.out]; exact (MlBox.new _ _ _).foot (Foot.new (fun _ => False) _ _) (fun e => e)
  have e0 : w0.cell? ⟨w.heap.size + 1, 0, none⟩ = some (.int .i64 e) := by
    rw [← HW0.out]
    have h := heap_alloc_new (w.alloc (.cells (m.cells (.slice A m.es.length c)).toArray 45 )) (.cells #[.int .i64 e, .int .i64 s] 56 )
    rw [show (w.alloc (.cells (m.cells (.slice A m.es.length c)).toArray 45 )).heap.size = w.heap.size + 1 by simp] at h
    simp only [World.cell?, h]; rfl
  have e1 : w0.cell? ⟨w.heap.size + 1, 1, none⟩ = some (.int .i64 s) := by
    rw [← HW0.out]
    have h := heap_alloc_new (w.alloc (.cells (m.cells (.slice A m.es.length c)).toArray 45 )) (.cells #[.int .i64 e, .int .i64 s] 56 )
    rw [show (w.alloc (.cells (m.cells (.slice A m.es.length c)).toArray 45 )).heap.size = w.heap.size + 1 by simp] at h
    simp only [World.cell?, h]; rfl
  have hs0 : w.heap.size < w0.heap.size := by rw [← HW0.out]; simp; omega
  have HB0 := Lib.hid hb0
  have HX0 := Lib.hid X0
  have HBX := Lib.hid (fun X (hX : Below w0.heap.size w0 X) => X0.bel hX hs0)
  have c9 := X0.cell 9
  simp only [Ml.cells, List.getElem?_cons_zero, List.getElem?_cons_succ] at c9
  have HWK := Lib.hid (fun X (hX : Below w.heap.size w X) => mlWorks_any (hA.keep hX))
  have hlen : m.es.length ≤ 9223372036854775807 := by
    obtain ⟨_, _, _, h1, h2, -⟩ := hE.len
    unfold maxLen at h2
    omega
  have HCK : Hid (∀ x : Ml, x.es = m.es → m.es.length ≤ 500 → ∀ X, Below w.heap.size w X → Calls Tryd.prog 22 #[.agg (x.cells (.slice A m.es.length c)).toArray, .int .i64 n] X (NumPost (.int .i64 (x.err n)) X)) := fun x hx hn X hX => by
    have h := mlCheck_any x n A c (hA.keep hX) (by rw [hx]; exact (RdB.below hE hX (Nat.le_refl _) : EsB _ X (.slice A m.es.length c) m.es)) hX.size (by rw [hx]; omega)
    rw [hx] at h
    exact h
  have hd0 := X0.load
  simp only [Ml.v] at *
  clear hA hE hb0 X0
  go_enter Tryd.func9, Tryd.ntmps9
  go_upto_region 1 with (rw [HW0.out])
  go_cut [7, 8] (fun u7 u8 wx => u7 = .int .i64 e ∧ u8 = .int .i64 s ∧ Hid (Below w0.heap.size w0 wx))
  case first =>
    go_quiet (fail)
    go_wp2_with fail
    go_meet
    case rel => exact ⟨rfl, rfl, Lib.hid (below_drewN (Below.refl _ _) _)⟩
  case rest =>
  obtain ⟨rfl, rfl, HB01⟩ := hcut
  obtain ⟨w1, hw1⟩ : ∃ w1, w1 = wc := ⟨_, rfl⟩
  subst hw1
  have HB1 := Lib.hid (HB0.out.trans (HB01.out.mono HB0.out.size))
  have HX1 := Lib.hid (HBX.out _ HB01.out)
  have c9 := HX1.out.cell 9
  have hd1 := HX1.out.load
  simp only [Ml.cells, List.getElem?_cons_zero, List.getElem?_cons_succ] at c9
  simp only [Ml.v] at hd1
  clear e0 e1 HW0 HX0 hd0
  by_cases hbig : 500 < m.es.length
  · have t : decide (500 < (m.es.length : Int)) = true := decide_eq_true (by omega)
    clear HCK HBX hd1
    go_wp2_with fail
    refine (HWK.out _ HB1.out).mono ?_
    rintro e w2 ⟨rfl, hb2⟩
    go_wp2_with fail
    go_ret
    exact ⟨rfl, HB1.out.trans (hb2.mono HB1.out.size)⟩
  have t : decide (500 < (m.es.length : Int)) = false := decide_eq_false (by omega)
  have HC2 := Lib.hid (fun (x : Ml) (hx : x.es = m.es) => HCK.out x hx (by omega))
  have HC0 := Lib.hid (HC2.out m rfl)
  clear HCK hbig hlen
  rcases hmay : m.may n with _ | _
  · rw [show m.err n = 2 by unfold Ml.err; rw [hmay]; rfl] at HC0
    clear hmay HBX HC2
    go_wp2_with (refine wpList_load_want (by kernel_rfl) 45  _ rfl ⟨w.heap.size, 0, none⟩ rfl hd1 ?_)
    refine (HC0.out _ HB1.out).mono ?_
    rintro e w2 ⟨rfl, hb2⟩
    have HB2 := Lib.hid (HB1.out.trans (hb2.mono HB1.out.size))
    clear hb2
    go_wp2_with fail
    refine (HWK.out _ HB2.out).mono ?_
    rintro e w3 ⟨rfl, hb3⟩
    go_wp2_with fail
    go_ret
    exact ⟨rfl, HB2.out.trans (hb3.mono HB2.out.size)⟩
  rw [show m.err n = 0 by unfold Ml.err; rw [hmay]; rfl] at HC0
  obtain ⟨bi, HBI⟩ : ∃ b, Hid (decide (0 ≤ e ∧ e < n) = b) := ⟨_, Lib.hid rfl⟩
  obtain ⟨ma, HMA⟩ : ∃ x, Hid ({ m with fr := e } = x) := ⟨_, Lib.hid rfl⟩
  obtain ⟨mb, HMB⟩ : ∃ x, Hid ({ m with tt := e } = x) := ⟨_, Lib.hid rfl⟩
  obtain ⟨mc, HMC⟩ : ∃ x, Hid ({ m with sp := s } = x) := ⟨_, Lib.hid rfl⟩
  have HEA : Hid (ma.err n = if bi then 0 else 2) := by
    show _ = _
    rw [← HMA.out, ← HBI.out, err_fr hmay e]
    simp only [decide_eq_true_eq]
  have HEB : Hid (mb.err n = if bi then 0 else 2) := by
    show _ = _
    rw [← HMB.out, ← HBI.out, err_tt hmay e]
    simp only [decide_eq_true_eq]
  have HEC : Hid (mc.err n = if s = 0 ∨ (hasS m.ki = true ∧ 0 < s ∧ s ≤ 1073741824) then 0 else 2) := by
    show _ = _
    rw [← HMC.out, err_sp hmay s]
  have HCA := Lib.hid (HC2.out ma (by rw [← HMA.out]))
  have HCB := Lib.hid (HC2.out mb (by rw [← HMB.out]))
  have HCC := Lib.hid (HC2.out mc (by rw [← HMC.out]))
  clear hmay HC2
  go_wp2_with (refine wpList_load_want (by kernel_rfl) 45  _ rfl ⟨w.heap.size, 0, none⟩ rfl hd1 ?_)
  refine (HC0.out _ HB1.out).mono ?_
  rintro e2 w2 ⟨rfl, hb2⟩
  have HB02 := Lib.hid (HB01.out.trans (hb2.mono HB01.out.size))
  have hX2 := HBX.out _ HB02.out
  have hB02 := HB02.out.size
  clear hb2 hd1 HC0 HB1 HB01 HX1 c9 t
  go_upto_region 4 with fail
  go_cut [9, 10, 11] (fun u9 u10 u11 wx => ∃ p q r : Nat, u9 = .pointer (some ⟨p, 0, none⟩) ∧ u10 = .pointer (some ⟨q, 0, none⟩) ∧ u11 = .pointer (some ⟨r, 0, none⟩) ∧ Hid (MlBox wx p m (.slice A m.es.length c)) ∧ Hid (MlBox wx q m (.slice A m.es.length c)) ∧ Hid (MlBox wx r m (.slice A m.es.length c)) ∧ Hid (p ≠ q ∧ p ≠ r ∧ q ≠ r) ∧ Hid (w0.heap.size ≤ p ∧ w0.heap.size ≤ q ∧ w0.heap.size ≤ r) ∧ Hid (Below w0.heap.size w0 wx))
  case first =>
    have HR4 : Hid (∀ p q r z, p ≠ q ∧ p ≠ r ∧ q ≠ r → w0.heap.size ≤ p ∧ w0.heap.size ≤ q ∧ w0.heap.size ≤ r → Below w0.heap.size w0 z → MlBox z p m (.slice A m.es.length c) → MlBox z q m (.slice A m.es.length c) → MlBox z r m (.slice A m.es.length c) → ∃ p' q' r' : Nat, Value.pointer (some ⟨p, 0, none⟩) = Value.pointer (some ⟨p', 0, none⟩) ∧ Value.pointer (some ⟨q, 0, none⟩) = Value.pointer (some ⟨q', 0, none⟩) ∧ Value.pointer (some ⟨r, 0, none⟩) = Value.pointer (some ⟨r', 0, none⟩) ∧ Hid (MlBox z p' m (.slice A m.es.length c)) ∧ Hid (MlBox z q' m (.slice A m.es.length c)) ∧ Hid (MlBox z r' m (.slice A m.es.length c)) ∧ Hid (p' ≠ q' ∧ p' ≠ r' ∧ q' ≠ r') ∧ Hid (w0.heap.size ≤ p' ∧ w0.heap.size ≤ q' ∧ w0.heap.size ≤ r') ∧ Hid (Below w0.heap.size w0 z)) :=
      fun p q r z h1 h2 h3 h4 h5 h6 => ⟨p, q, r, rfl, rfl, rfl, h4, h5, h6, h1, h2, h3⟩
    have HBD := Lib.hid (HB02.out.drew)
    have hX3 : MlBox w2.drew w.heap.size m (.slice A m.es.length c) := hX2
    clear HWK HEA HEB HEC HCA HCB HCC HBI HMA HMB HMC hX2
    refine wp_region_last (S := fun Y => MlBox Y w.heap.size m (.slice A m.es.length c)) (by kernel_rfl) hX3 (fun hS0 => ?_)
    obtain ⟨wd, hwd⟩ : ∃ wd, w2.drew = wd := ⟨_, rfl⟩
    have hsd : w2.heap.size = wd.heap.size := by rw [← hwd]; rfl
    rw [hwd] at HBD hX3 hS0 ⊢
    rw [hsd] at hB02
    clear hwd hsd HB02
    refine wpAnyL_take (i := 0) (k := 6) (v := .agg (m.cells (.slice A m.es.length c)).toArray) rfl rfl (by decide) (by kernel_rfl) (by kernel_rfl) (by kernel_rfl) (by kernel_rfl) (by kernel_rfl) (by kernel_rfl) (fun _ _ _ h => h) (Or.inl ⟨by rfl, fun X hX => run_load 45  _ rfl ⟨w.heap.size, 0, none⟩ rfl (MlBox.load hX)⟩) (by assumption) ?_
    try simp only [Act.put, List.setIfInBounds_toArray, List.set_cons_zero, List.set_cons_succ, List.getElem_toArray, List.getElem_cons_zero]
    refine wpAnyL_take (i := 1) (k := 7) (v := .agg (m.cells (.slice A m.es.length c)).toArray) rfl rfl (by decide) (by kernel_rfl) (by kernel_rfl) (by kernel_rfl) (by kernel_rfl) (by kernel_rfl) (by kernel_rfl) (fun _ _ _ h => h) (Or.inl ⟨by rfl, fun X hX => run_load 45  _ rfl ⟨w.heap.size, 0, none⟩ rfl (MlBox.load hX)⟩) (by assumption) ?_
    try simp only [Act.put, List.setIfInBounds_toArray, List.set_cons_zero, List.set_cons_succ, List.getElem_toArray, List.getElem_cons_succ, List.getElem_cons_zero]
    refine wpAnyL_take (i := 2) (k := 8) (v := .agg (m.cells (.slice A m.es.length c)).toArray) rfl rfl (by decide) (by kernel_rfl) (by kernel_rfl) (by kernel_rfl) (by kernel_rfl) (by kernel_rfl) (by kernel_rfl) (fun _ _ _ h => h) (Or.inl ⟨by rfl, fun X hX => run_load 45  _ rfl ⟨w.heap.size, 0, none⟩ rfl (MlBox.load hX)⟩) (by assumption) ?_
    try simp only [Act.put, List.setIfInBounds_toArray, List.set_cons_zero, List.set_cons_succ, List.getElem_toArray, List.getElem_cons_succ, List.getElem_cons_zero]
    have hX0 := hS0
    have hltb0 : w.heap.size < wd.heap.size := by omega
    have hB_0 := HBD.out
    clear hX3 hS0
    refine wpAnyL_ready (rs := [3, 4, 5]) (by kernel_rfl) (by simp) (AllReadyL.cons rfl (fun K hK => ?_) (AllReadyL.cons rfl (fun K hK => ?_) (AllReadyL.cons rfl (fun K hK => ?_) AllReadyL.nil)))
    · obtain ⟨wa1, hv, hN, hBn, hlt1⟩ := box_new wd
      have hv' := hv
      go_simp
      try rw [hv]
      refine hK.out _ _ (fun _ => MlBox.bel hX0 hBn hltb0) (fun hHeld => ?_)
      clear hK K hHeld hv hv'
      try simp only [Act.put, List.setIfInBounds_toArray, List.set_cons_zero, List.set_cons_succ, List.getElem_toArray, List.getElem_cons_succ, List.getElem_cons_zero]
      have hX1 := MlBox.bel hX0 hBn hltb0
      have hltb1 : w.heap.size < wa1.heap.size := by omega
      have hN1_0 := hN
      have hB_1 := hB_0.trans (hBn.mono (by omega))
      refine wpAnyL_ready (rs := [4, 5]) (by kernel_rfl) (by simp) (AllReadyL.cons rfl (fun K hK => ?_) (AllReadyL.cons rfl (fun K hK => ?_) AllReadyL.nil))
      · obtain ⟨wa2, hv, hN, hBn, hlt2⟩ := box_new wa1
        have hv' := hv
        go_simp
        try rw [hv]
        refine hK.out _ _ (fun _ => MlBox.bel hX1 hBn hltb1) (fun hHeld => ?_)
        clear hK K hHeld hv hv'
        try simp only [Act.put, List.setIfInBounds_toArray, List.set_cons_zero, List.set_cons_succ, List.getElem_toArray, List.getElem_cons_succ, List.getElem_cons_zero]
        have hX2 := MlBox.bel hX1 hBn hltb1
        have hltb2 : w.heap.size < wa2.heap.size := by omega
        have hN2_0 := MlBox.bel hN1_0 hBn (MlBox.lt hN1_0)
        have hN2_1 := hN
        have hB_2 := hB_1.trans (hBn.mono (by omega))
        refine wpAnyL_ready (rs := [5]) (by kernel_rfl) (by simp) (AllReadyL.cons rfl (fun K hK => ?_) AllReadyL.nil)
        · obtain ⟨wa3, hv, hN, hBn, hlt3⟩ := box_new wa2
          have hv' := hv
          go_simp
          try rw [hv]
          refine hK.out _ _ (fun _ => MlBox.bel hX2 hBn hltb2) (fun hHeld => ?_)
          clear hK K hHeld hv hv'
          try simp only [Act.put, List.setIfInBounds_toArray, List.set_cons_zero, List.set_cons_succ, List.getElem_toArray, List.getElem_cons_succ, List.getElem_cons_zero]
          have hX3 := MlBox.bel hX2 hBn hltb2
          have hltb3 : w.heap.size < wa3.heap.size := by omega
          have hN3_0 := MlBox.bel hN2_0 hBn (MlBox.lt hN2_0)
          have hN3_1 := MlBox.bel hN2_1 hBn (MlBox.lt hN2_1)
          have hN3_2 := hN
          have hB_3 := hB_2.trans (hBn.mono (by omega))
          have HD : Hid (wd.heap.size ≠ wa1.heap.size ∧ wd.heap.size ≠ wa2.heap.size ∧ wa1.heap.size ≠ wa2.heap.size) := (by omega : _ ∧ _ ∧ _)
          have HLB : Hid (w0.heap.size ≤ wd.heap.size ∧ w0.heap.size ≤ wa1.heap.size ∧ w0.heap.size ≤ wa2.heap.size) := (by omega : _ ∧ _ ∧ _)
          obtain ⟨x, y, z, hs1, hs2, hs3, hx, hy, hz, hp, hq, hr, hbz⟩ := stores3 hX3 hN3_0 hN3_1 hN3_2 HD.out hs0 HLB.out
          have HBZ := hB_3.trans hbz
          refine wpAnyL_ready (rs := [6]) (by kernel_rfl) (by simp) (AllReadyL.cons rfl (fun K hK => ?_) AllReadyL.nil)
          refine step_store rfl _ _ _ rfl ⟨wd.heap.size, 0, none⟩ (.agg (m.cells (.slice A m.es.length c)).toArray) rfl rfl hs1 ?_
          refine hK.out _ _ (fun _ => hx) (fun hHeld => ?_)
          clear hK K hHeld
          try simp only [Act.put, List.getElem_toArray, List.getElem_cons_succ, List.getElem_cons_zero]
          refine wpAnyL_ready (rs := [7]) (by kernel_rfl) (by simp) (AllReadyL.cons rfl (fun K hK => ?_) AllReadyL.nil)
          refine step_store rfl _ _ _ rfl ⟨wa1.heap.size, 0, none⟩ (.agg (m.cells (.slice A m.es.length c)).toArray) rfl rfl hs2 ?_
          refine hK.out _ _ (fun _ => hy) (fun hHeld => ?_)
          clear hK K hHeld
          try simp only [Act.put, List.getElem_toArray, List.getElem_cons_succ, List.getElem_cons_zero]
          refine wpAnyL_ready (rs := [8]) (by kernel_rfl) (by simp) (AllReadyL.cons rfl (fun K hK => ?_) AllReadyL.nil)
          refine step_store rfl _ _ _ rfl ⟨wa2.heap.size, 0, none⟩ (.agg (m.cells (.slice A m.es.length c)).toArray) rfl rfl hs3 ?_
          refine hK.out _ _ (fun _ => hz) (fun hHeld => ?_)
          clear hK K hHeld
          try simp only [Act.put, List.getElem_toArray, List.getElem_cons_succ, List.getElem_cons_zero]
          refine wpAnyL_done (by kernel_rfl) ?_ _
          go_wp2_with fail
          go_meet
          case rel => exact HR4.out _ _ _ _ HD.out HLB.out HBZ hp hq hr
      · obtain ⟨wa2, hv, hN, hBn, hlt2⟩ := box_new wa1
        have hv' := hv
        go_simp
        try rw [hv]
        refine hK.out _ _ (fun _ => MlBox.bel hX1 hBn hltb1) (fun hHeld => ?_)
        clear hK K hHeld hv hv'
        try simp only [Act.put, List.setIfInBounds_toArray, List.set_cons_zero, List.set_cons_succ, List.getElem_toArray, List.getElem_cons_succ, List.getElem_cons_zero]
        have hX2 := MlBox.bel hX1 hBn hltb1
        have hltb2 : w.heap.size < wa2.heap.size := by omega
        have hN2_0 := MlBox.bel hN1_0 hBn (MlBox.lt hN1_0)
        have hN2_2 := hN
        have hB_2 := hB_1.trans (hBn.mono (by omega))
        refine wpAnyL_ready (rs := [4]) (by kernel_rfl) (by simp) (AllReadyL.cons rfl (fun K hK => ?_) AllReadyL.nil)
        · obtain ⟨wa3, hv, hN, hBn, hlt3⟩ := box_new wa2
          have hv' := hv
          go_simp
          try rw [hv]
          refine hK.out _ _ (fun _ => MlBox.bel hX2 hBn hltb2) (fun hHeld => ?_)
          clear hK K hHeld hv hv'
          try simp only [Act.put, List.setIfInBounds_toArray, List.set_cons_zero, List.set_cons_succ, List.getElem_toArray, List.getElem_cons_succ, List.getElem_cons_zero]
          have hX3 := MlBox.bel hX2 hBn hltb2
          have hltb3 : w.heap.size < wa3.heap.size := by omega
          have hN3_0 := MlBox.bel hN2_0 hBn (MlBox.lt hN2_0)
          have hN3_2 := MlBox.bel hN2_2 hBn (MlBox.lt hN2_2)
          have hN3_1 := hN
          have hB_3 := hB_2.trans (hBn.mono (by omega))
          have HD : Hid (wd.heap.size ≠ wa2.heap.size ∧ wd.heap.size ≠ wa1.heap.size ∧ wa2.heap.size ≠ wa1.heap.size) := (by omega : _ ∧ _ ∧ _)
          have HLB : Hid (w0.heap.size ≤ wd.heap.size ∧ w0.heap.size ≤ wa2.heap.size ∧ w0.heap.size ≤ wa1.heap.size) := (by omega : _ ∧ _ ∧ _)
          obtain ⟨x, y, z, hs1, hs2, hs3, hx, hy, hz, hp, hq, hr, hbz⟩ := stores3 hX3 hN3_0 hN3_1 hN3_2 HD.out hs0 HLB.out
          have HBZ := hB_3.trans hbz
          refine wpAnyL_ready (rs := [6]) (by kernel_rfl) (by simp) (AllReadyL.cons rfl (fun K hK => ?_) AllReadyL.nil)
          refine step_store rfl _ _ _ rfl ⟨wd.heap.size, 0, none⟩ (.agg (m.cells (.slice A m.es.length c)).toArray) rfl rfl hs1 ?_
          refine hK.out _ _ (fun _ => hx) (fun hHeld => ?_)
          clear hK K hHeld
          try simp only [Act.put, List.getElem_toArray, List.getElem_cons_succ, List.getElem_cons_zero]
          refine wpAnyL_ready (rs := [7]) (by kernel_rfl) (by simp) (AllReadyL.cons rfl (fun K hK => ?_) AllReadyL.nil)
          refine step_store rfl _ _ _ rfl ⟨wa2.heap.size, 0, none⟩ (.agg (m.cells (.slice A m.es.length c)).toArray) rfl rfl hs2 ?_
          refine hK.out _ _ (fun _ => hy) (fun hHeld => ?_)
          clear hK K hHeld
          try simp only [Act.put, List.getElem_toArray, List.getElem_cons_succ, List.getElem_cons_zero]
          refine wpAnyL_ready (rs := [8]) (by kernel_rfl) (by simp) (AllReadyL.cons rfl (fun K hK => ?_) AllReadyL.nil)
          refine step_store rfl _ _ _ rfl ⟨wa1.heap.size, 0, none⟩ (.agg (m.cells (.slice A m.es.length c)).toArray) rfl rfl hs3 ?_
          refine hK.out _ _ (fun _ => hz) (fun hHeld => ?_)
          clear hK K hHeld
          try simp only [Act.put, List.getElem_toArray, List.getElem_cons_succ, List.getElem_cons_zero]
          refine wpAnyL_done (by kernel_rfl) ?_ _
          go_wp2_with fail
          go_meet
          case rel => exact HR4.out _ _ _ _ HD.out HLB.out HBZ hp hq hr
    · obtain ⟨wa1, hv, hN, hBn, hlt1⟩ := box_new wd
      have hv' := hv
      go_simp
      try rw [hv]
      refine hK.out _ _ (fun _ => MlBox.bel hX0 hBn hltb0) (fun hHeld => ?_)
      clear hK K hHeld hv hv'
      try simp only [Act.put, List.setIfInBounds_toArray, List.set_cons_zero, List.set_cons_succ, List.getElem_toArray, List.getElem_cons_succ, List.getElem_cons_zero]
      have hX1 := MlBox.bel hX0 hBn hltb0
      have hltb1 : w.heap.size < wa1.heap.size := by omega
      have hN1_1 := hN
      have hB_1 := hB_0.trans (hBn.mono (by omega))
      refine wpAnyL_ready (rs := [3, 5]) (by kernel_rfl) (by simp) (AllReadyL.cons rfl (fun K hK => ?_) (AllReadyL.cons rfl (fun K hK => ?_) AllReadyL.nil))
      · obtain ⟨wa2, hv, hN, hBn, hlt2⟩ := box_new wa1
        have hv' := hv
        go_simp
        try rw [hv]
        refine hK.out _ _ (fun _ => MlBox.bel hX1 hBn hltb1) (fun hHeld => ?_)
        clear hK K hHeld hv hv'
        try simp only [Act.put, List.setIfInBounds_toArray, List.set_cons_zero, List.set_cons_succ, List.getElem_toArray, List.getElem_cons_succ, List.getElem_cons_zero]
        have hX2 := MlBox.bel hX1 hBn hltb1
        have hltb2 : w.heap.size < wa2.heap.size := by omega
        have hN2_1 := MlBox.bel hN1_1 hBn (MlBox.lt hN1_1)
        have hN2_0 := hN
        have hB_2 := hB_1.trans (hBn.mono (by omega))
        refine wpAnyL_ready (rs := [5]) (by kernel_rfl) (by simp) (AllReadyL.cons rfl (fun K hK => ?_) AllReadyL.nil)
        · obtain ⟨wa3, hv, hN, hBn, hlt3⟩ := box_new wa2
          have hv' := hv
          go_simp
          try rw [hv]
          refine hK.out _ _ (fun _ => MlBox.bel hX2 hBn hltb2) (fun hHeld => ?_)
          clear hK K hHeld hv hv'
          try simp only [Act.put, List.setIfInBounds_toArray, List.set_cons_zero, List.set_cons_succ, List.getElem_toArray, List.getElem_cons_succ, List.getElem_cons_zero]
          have hX3 := MlBox.bel hX2 hBn hltb2
          have hltb3 : w.heap.size < wa3.heap.size := by omega
          have hN3_1 := MlBox.bel hN2_1 hBn (MlBox.lt hN2_1)
          have hN3_0 := MlBox.bel hN2_0 hBn (MlBox.lt hN2_0)
          have hN3_2 := hN
          have hB_3 := hB_2.trans (hBn.mono (by omega))
          have HD : Hid (wa1.heap.size ≠ wd.heap.size ∧ wa1.heap.size ≠ wa2.heap.size ∧ wd.heap.size ≠ wa2.heap.size) := (by omega : _ ∧ _ ∧ _)
          have HLB : Hid (w0.heap.size ≤ wa1.heap.size ∧ w0.heap.size ≤ wd.heap.size ∧ w0.heap.size ≤ wa2.heap.size) := (by omega : _ ∧ _ ∧ _)
          obtain ⟨x, y, z, hs1, hs2, hs3, hx, hy, hz, hp, hq, hr, hbz⟩ := stores3 hX3 hN3_0 hN3_1 hN3_2 HD.out hs0 HLB.out
          have HBZ := hB_3.trans hbz
          refine wpAnyL_ready (rs := [6]) (by kernel_rfl) (by simp) (AllReadyL.cons rfl (fun K hK => ?_) AllReadyL.nil)
          refine step_store rfl _ _ _ rfl ⟨wa1.heap.size, 0, none⟩ (.agg (m.cells (.slice A m.es.length c)).toArray) rfl rfl hs1 ?_
          refine hK.out _ _ (fun _ => hx) (fun hHeld => ?_)
          clear hK K hHeld
          try simp only [Act.put, List.getElem_toArray, List.getElem_cons_succ, List.getElem_cons_zero]
          refine wpAnyL_ready (rs := [7]) (by kernel_rfl) (by simp) (AllReadyL.cons rfl (fun K hK => ?_) AllReadyL.nil)
          refine step_store rfl _ _ _ rfl ⟨wd.heap.size, 0, none⟩ (.agg (m.cells (.slice A m.es.length c)).toArray) rfl rfl hs2 ?_
          refine hK.out _ _ (fun _ => hy) (fun hHeld => ?_)
          clear hK K hHeld
          try simp only [Act.put, List.getElem_toArray, List.getElem_cons_succ, List.getElem_cons_zero]
          refine wpAnyL_ready (rs := [8]) (by kernel_rfl) (by simp) (AllReadyL.cons rfl (fun K hK => ?_) AllReadyL.nil)
          refine step_store rfl _ _ _ rfl ⟨wa2.heap.size, 0, none⟩ (.agg (m.cells (.slice A m.es.length c)).toArray) rfl rfl hs3 ?_
          refine hK.out _ _ (fun _ => hz) (fun hHeld => ?_)
          clear hK K hHeld
          try simp only [Act.put, List.getElem_toArray, List.getElem_cons_succ, List.getElem_cons_zero]
          refine wpAnyL_done (by kernel_rfl) ?_ _
          go_wp2_with fail
          go_meet
          case rel => exact HR4.out _ _ _ _ HD.out HLB.out HBZ hp hq hr
      · obtain ⟨wa2, hv, hN, hBn, hlt2⟩ := box_new wa1
        have hv' := hv
        go_simp
        try rw [hv]
        refine hK.out _ _ (fun _ => MlBox.bel hX1 hBn hltb1) (fun hHeld => ?_)
        clear hK K hHeld hv hv'
        try simp only [Act.put, List.setIfInBounds_toArray, List.set_cons_zero, List.set_cons_succ, List.getElem_toArray, List.getElem_cons_succ, List.getElem_cons_zero]
        have hX2 := MlBox.bel hX1 hBn hltb1
        have hltb2 : w.heap.size < wa2.heap.size := by omega
        have hN2_1 := MlBox.bel hN1_1 hBn (MlBox.lt hN1_1)
        have hN2_2 := hN
        have hB_2 := hB_1.trans (hBn.mono (by omega))
        refine wpAnyL_ready (rs := [3]) (by kernel_rfl) (by simp) (AllReadyL.cons rfl (fun K hK => ?_) AllReadyL.nil)
        · obtain ⟨wa3, hv, hN, hBn, hlt3⟩ := box_new wa2
          have hv' := hv
          go_simp
          try rw [hv]
          refine hK.out _ _ (fun _ => MlBox.bel hX2 hBn hltb2) (fun hHeld => ?_)
          clear hK K hHeld hv hv'
          try simp only [Act.put, List.setIfInBounds_toArray, List.set_cons_zero, List.set_cons_succ, List.getElem_toArray, List.getElem_cons_succ, List.getElem_cons_zero]
          have hX3 := MlBox.bel hX2 hBn hltb2
          have hltb3 : w.heap.size < wa3.heap.size := by omega
          have hN3_1 := MlBox.bel hN2_1 hBn (MlBox.lt hN2_1)
          have hN3_2 := MlBox.bel hN2_2 hBn (MlBox.lt hN2_2)
          have hN3_0 := hN
          have hB_3 := hB_2.trans (hBn.mono (by omega))
          have HD : Hid (wa2.heap.size ≠ wd.heap.size ∧ wa2.heap.size ≠ wa1.heap.size ∧ wd.heap.size ≠ wa1.heap.size) := (by omega : _ ∧ _ ∧ _)
          have HLB : Hid (w0.heap.size ≤ wa2.heap.size ∧ w0.heap.size ≤ wd.heap.size ∧ w0.heap.size ≤ wa1.heap.size) := (by omega : _ ∧ _ ∧ _)
          obtain ⟨x, y, z, hs1, hs2, hs3, hx, hy, hz, hp, hq, hr, hbz⟩ := stores3 hX3 hN3_0 hN3_1 hN3_2 HD.out hs0 HLB.out
          have HBZ := hB_3.trans hbz
          refine wpAnyL_ready (rs := [6]) (by kernel_rfl) (by simp) (AllReadyL.cons rfl (fun K hK => ?_) AllReadyL.nil)
          refine step_store rfl _ _ _ rfl ⟨wa2.heap.size, 0, none⟩ (.agg (m.cells (.slice A m.es.length c)).toArray) rfl rfl hs1 ?_
          refine hK.out _ _ (fun _ => hx) (fun hHeld => ?_)
          clear hK K hHeld
          try simp only [Act.put, List.getElem_toArray, List.getElem_cons_succ, List.getElem_cons_zero]
          refine wpAnyL_ready (rs := [7]) (by kernel_rfl) (by simp) (AllReadyL.cons rfl (fun K hK => ?_) AllReadyL.nil)
          refine step_store rfl _ _ _ rfl ⟨wd.heap.size, 0, none⟩ (.agg (m.cells (.slice A m.es.length c)).toArray) rfl rfl hs2 ?_
          refine hK.out _ _ (fun _ => hy) (fun hHeld => ?_)
          clear hK K hHeld
          try simp only [Act.put, List.getElem_toArray, List.getElem_cons_succ, List.getElem_cons_zero]
          refine wpAnyL_ready (rs := [8]) (by kernel_rfl) (by simp) (AllReadyL.cons rfl (fun K hK => ?_) AllReadyL.nil)
          refine step_store rfl _ _ _ rfl ⟨wa1.heap.size, 0, none⟩ (.agg (m.cells (.slice A m.es.length c)).toArray) rfl rfl hs3 ?_
          refine hK.out _ _ (fun _ => hz) (fun hHeld => ?_)
          clear hK K hHeld
          try simp only [Act.put, List.getElem_toArray, List.getElem_cons_succ, List.getElem_cons_zero]
          refine wpAnyL_done (by kernel_rfl) ?_ _
          go_wp2_with fail
          go_meet
          case rel => exact HR4.out _ _ _ _ HD.out HLB.out HBZ hp hq hr
    · obtain ⟨wa1, hv, hN, hBn, hlt1⟩ := box_new wd
      have hv' := hv
      go_simp
      try rw [hv]
      refine hK.out _ _ (fun _ => MlBox.bel hX0 hBn hltb0) (fun hHeld => ?_)
      clear hK K hHeld hv hv'
      try simp only [Act.put, List.setIfInBounds_toArray, List.set_cons_zero, List.set_cons_succ, List.getElem_toArray, List.getElem_cons_succ, List.getElem_cons_zero]
      have hX1 := MlBox.bel hX0 hBn hltb0
      have hltb1 : w.heap.size < wa1.heap.size := by omega
      have hN1_2 := hN
      have hB_1 := hB_0.trans (hBn.mono (by omega))
      refine wpAnyL_ready (rs := [3, 4]) (by kernel_rfl) (by simp) (AllReadyL.cons rfl (fun K hK => ?_) (AllReadyL.cons rfl (fun K hK => ?_) AllReadyL.nil))
      · obtain ⟨wa2, hv, hN, hBn, hlt2⟩ := box_new wa1
        have hv' := hv
        go_simp
        try rw [hv]
        refine hK.out _ _ (fun _ => MlBox.bel hX1 hBn hltb1) (fun hHeld => ?_)
        clear hK K hHeld hv hv'
        try simp only [Act.put, List.setIfInBounds_toArray, List.set_cons_zero, List.set_cons_succ, List.getElem_toArray, List.getElem_cons_succ, List.getElem_cons_zero]
        have hX2 := MlBox.bel hX1 hBn hltb1
        have hltb2 : w.heap.size < wa2.heap.size := by omega
        have hN2_2 := MlBox.bel hN1_2 hBn (MlBox.lt hN1_2)
        have hN2_0 := hN
        have hB_2 := hB_1.trans (hBn.mono (by omega))
        refine wpAnyL_ready (rs := [4]) (by kernel_rfl) (by simp) (AllReadyL.cons rfl (fun K hK => ?_) AllReadyL.nil)
        · obtain ⟨wa3, hv, hN, hBn, hlt3⟩ := box_new wa2
          have hv' := hv
          go_simp
          try rw [hv]
          refine hK.out _ _ (fun _ => MlBox.bel hX2 hBn hltb2) (fun hHeld => ?_)
          clear hK K hHeld hv hv'
          try simp only [Act.put, List.setIfInBounds_toArray, List.set_cons_zero, List.set_cons_succ, List.getElem_toArray, List.getElem_cons_succ, List.getElem_cons_zero]
          have hX3 := MlBox.bel hX2 hBn hltb2
          have hltb3 : w.heap.size < wa3.heap.size := by omega
          have hN3_2 := MlBox.bel hN2_2 hBn (MlBox.lt hN2_2)
          have hN3_0 := MlBox.bel hN2_0 hBn (MlBox.lt hN2_0)
          have hN3_1 := hN
          have hB_3 := hB_2.trans (hBn.mono (by omega))
          have HD : Hid (wa1.heap.size ≠ wa2.heap.size ∧ wa1.heap.size ≠ wd.heap.size ∧ wa2.heap.size ≠ wd.heap.size) := (by omega : _ ∧ _ ∧ _)
          have HLB : Hid (w0.heap.size ≤ wa1.heap.size ∧ w0.heap.size ≤ wa2.heap.size ∧ w0.heap.size ≤ wd.heap.size) := (by omega : _ ∧ _ ∧ _)
          obtain ⟨x, y, z, hs1, hs2, hs3, hx, hy, hz, hp, hq, hr, hbz⟩ := stores3 hX3 hN3_0 hN3_1 hN3_2 HD.out hs0 HLB.out
          have HBZ := hB_3.trans hbz
          refine wpAnyL_ready (rs := [6]) (by kernel_rfl) (by simp) (AllReadyL.cons rfl (fun K hK => ?_) AllReadyL.nil)
          refine step_store rfl _ _ _ rfl ⟨wa1.heap.size, 0, none⟩ (.agg (m.cells (.slice A m.es.length c)).toArray) rfl rfl hs1 ?_
          refine hK.out _ _ (fun _ => hx) (fun hHeld => ?_)
          clear hK K hHeld
          try simp only [Act.put, List.getElem_toArray, List.getElem_cons_succ, List.getElem_cons_zero]
          refine wpAnyL_ready (rs := [7]) (by kernel_rfl) (by simp) (AllReadyL.cons rfl (fun K hK => ?_) AllReadyL.nil)
          refine step_store rfl _ _ _ rfl ⟨wa2.heap.size, 0, none⟩ (.agg (m.cells (.slice A m.es.length c)).toArray) rfl rfl hs2 ?_
          refine hK.out _ _ (fun _ => hy) (fun hHeld => ?_)
          clear hK K hHeld
          try simp only [Act.put, List.getElem_toArray, List.getElem_cons_succ, List.getElem_cons_zero]
          refine wpAnyL_ready (rs := [8]) (by kernel_rfl) (by simp) (AllReadyL.cons rfl (fun K hK => ?_) AllReadyL.nil)
          refine step_store rfl _ _ _ rfl ⟨wd.heap.size, 0, none⟩ (.agg (m.cells (.slice A m.es.length c)).toArray) rfl rfl hs3 ?_
          refine hK.out _ _ (fun _ => hz) (fun hHeld => ?_)
          clear hK K hHeld
          try simp only [Act.put, List.getElem_toArray, List.getElem_cons_succ, List.getElem_cons_zero]
          refine wpAnyL_done (by kernel_rfl) ?_ _
          go_wp2_with fail
          go_meet
          case rel => exact HR4.out _ _ _ _ HD.out HLB.out HBZ hp hq hr
      · obtain ⟨wa2, hv, hN, hBn, hlt2⟩ := box_new wa1
        have hv' := hv
        go_simp
        try rw [hv]
        refine hK.out _ _ (fun _ => MlBox.bel hX1 hBn hltb1) (fun hHeld => ?_)
        clear hK K hHeld hv hv'
        try simp only [Act.put, List.setIfInBounds_toArray, List.set_cons_zero, List.set_cons_succ, List.getElem_toArray, List.getElem_cons_succ, List.getElem_cons_zero]
        have hX2 := MlBox.bel hX1 hBn hltb1
        have hltb2 : w.heap.size < wa2.heap.size := by omega
        have hN2_2 := MlBox.bel hN1_2 hBn (MlBox.lt hN1_2)
        have hN2_1 := hN
        have hB_2 := hB_1.trans (hBn.mono (by omega))
        refine wpAnyL_ready (rs := [3]) (by kernel_rfl) (by simp) (AllReadyL.cons rfl (fun K hK => ?_) AllReadyL.nil)
        · obtain ⟨wa3, hv, hN, hBn, hlt3⟩ := box_new wa2
          have hv' := hv
          go_simp
          try rw [hv]
          refine hK.out _ _ (fun _ => MlBox.bel hX2 hBn hltb2) (fun hHeld => ?_)
          clear hK K hHeld hv hv'
          try simp only [Act.put, List.setIfInBounds_toArray, List.set_cons_zero, List.set_cons_succ, List.getElem_toArray, List.getElem_cons_succ, List.getElem_cons_zero]
          have hX3 := MlBox.bel hX2 hBn hltb2
          have hltb3 : w.heap.size < wa3.heap.size := by omega
          have hN3_2 := MlBox.bel hN2_2 hBn (MlBox.lt hN2_2)
          have hN3_1 := MlBox.bel hN2_1 hBn (MlBox.lt hN2_1)
          have hN3_0 := hN
          have hB_3 := hB_2.trans (hBn.mono (by omega))
          have HD : Hid (wa2.heap.size ≠ wa1.heap.size ∧ wa2.heap.size ≠ wd.heap.size ∧ wa1.heap.size ≠ wd.heap.size) := (by omega : _ ∧ _ ∧ _)
          have HLB : Hid (w0.heap.size ≤ wa2.heap.size ∧ w0.heap.size ≤ wa1.heap.size ∧ w0.heap.size ≤ wd.heap.size) := (by omega : _ ∧ _ ∧ _)
          obtain ⟨x, y, z, hs1, hs2, hs3, hx, hy, hz, hp, hq, hr, hbz⟩ := stores3 hX3 hN3_0 hN3_1 hN3_2 HD.out hs0 HLB.out
          have HBZ := hB_3.trans hbz
          refine wpAnyL_ready (rs := [6]) (by kernel_rfl) (by simp) (AllReadyL.cons rfl (fun K hK => ?_) AllReadyL.nil)
          refine step_store rfl _ _ _ rfl ⟨wa2.heap.size, 0, none⟩ (.agg (m.cells (.slice A m.es.length c)).toArray) rfl rfl hs1 ?_
          refine hK.out _ _ (fun _ => hx) (fun hHeld => ?_)
          clear hK K hHeld
          try simp only [Act.put, List.getElem_toArray, List.getElem_cons_succ, List.getElem_cons_zero]
          refine wpAnyL_ready (rs := [7]) (by kernel_rfl) (by simp) (AllReadyL.cons rfl (fun K hK => ?_) AllReadyL.nil)
          refine step_store rfl _ _ _ rfl ⟨wa1.heap.size, 0, none⟩ (.agg (m.cells (.slice A m.es.length c)).toArray) rfl rfl hs2 ?_
          refine hK.out _ _ (fun _ => hy) (fun hHeld => ?_)
          clear hK K hHeld
          try simp only [Act.put, List.getElem_toArray, List.getElem_cons_succ, List.getElem_cons_zero]
          refine wpAnyL_ready (rs := [8]) (by kernel_rfl) (by simp) (AllReadyL.cons rfl (fun K hK => ?_) AllReadyL.nil)
          refine step_store rfl _ _ _ rfl ⟨wd.heap.size, 0, none⟩ (.agg (m.cells (.slice A m.es.length c)).toArray) rfl rfl hs3 ?_
          refine hK.out _ _ (fun _ => hz) (fun hHeld => ?_)
          clear hK K hHeld
          try simp only [Act.put, List.getElem_toArray, List.getElem_cons_succ, List.getElem_cons_zero]
          refine wpAnyL_done (by kernel_rfl) ?_ _
          go_wp2_with fail
          go_meet
          case rel => exact HR4.out _ _ _ _ HD.out HLB.out HBZ hp hq hr
  case rest =>
  obtain ⟨p, q, r, rfl, rfl, rfl, HP, HQ, HR, HD, HL, HB04⟩ := hcut
  obtain ⟨w4, hw4⟩ : ∃ w4, w4 = wc := ⟨_, rfl⟩
  subst hw4
  clear HB02 hX2 hB02
  have q1 := HP.out.cell 1
  have q2 := HQ.out.cell 2
  have q8 := HR.out.cell 8
  simp only [Ml.cells, List.getElem?_cons_zero, List.getElem?_cons_succ] at q1 q2 q8
  have f1 : w4.frozen? ⟨p, 1, none⟩ = false := Lib.frozen_of_heap HP.out _
  go_upto_region 6 with fail
  obtain ⟨w5, HW5⟩ : ∃ w5, Hid (w4.setCell ⟨p, 1, none⟩ (.int .i64 e) = w5) := ⟨_, Lib.hid rfl⟩
  rw [HW5.out]
  have hf5 : Foot (fun j => j = p) w4 w5 := by rw [← HW5.out]; exact Foot.set (fun j => j = p) _ _ _ rfl
  have HP5 : Hid (MlBox w5 p ma (.slice A m.es.length c)) := by show MlBox _ _ _ _; rw [← HW5.out, ← HMA.out]; exact MlBox.set1 HP.out e
  have HQ5 := Lib.hid (HQ.out.foot hf5 (fun e => HD.out.1 e.symm))
  have HR5 := Lib.hid (HR.out.foot hf5 (fun e => HD.out.2.1 e.symm))
  have HB05 : Hid (Below w0.heap.size w0 w5) := by show Below _ _ _; rw [← HW5.out]; exact HB04.out.setCell HL.out.1 _
  have q2 := HQ5.out.cell 2
  simp only [Ml.cells, List.getElem?_cons_zero, List.getElem?_cons_succ] at q2
  have f2 : w5.frozen? ⟨q, 2, none⟩ = false := Lib.frozen_of_heap HQ5.out _
  clear q1 q8 f1 hf5 HW5 HP HQ HR HB04
  go_upto_region 7 with fail
  obtain ⟨w6, HW6⟩ : ∃ w6, Hid (w5.setCell ⟨q, 2, none⟩ (.int .i64 e) = w6) := ⟨_, Lib.hid rfl⟩
  rw [HW6.out]
  have hf6 : Foot (fun j => j = q) w5 w6 := by rw [← HW6.out]; exact Foot.set (fun j => j = q) _ _ _ rfl
  have HP6 := Lib.hid (HP5.out.foot hf6 HD.out.1)
  have HQ6 : Hid (MlBox w6 q mb (.slice A m.es.length c)) := by show MlBox _ _ _ _; rw [← HW6.out, ← HMB.out]; exact MlBox.set2 HQ5.out e
  have HR6 := Lib.hid (HR5.out.foot hf6 (fun e => HD.out.2.2 e.symm))
  have HB06 : Hid (Below w0.heap.size w0 w6) := by show Below _ _ _; rw [← HW6.out]; exact HB05.out.setCell HL.out.2.1 _
  have q8 := HR6.out.cell 8
  simp only [Ml.cells, List.getElem?_cons_zero, List.getElem?_cons_succ] at q8
  have f8 : w6.frozen? ⟨r, 8, none⟩ = false := Lib.frozen_of_heap HR6.out _
  clear q2 f2 hf6 HW6 HP5 HQ5 HR5 HB05
  go_upto_region 8 with fail
  obtain ⟨w7, HW7⟩ : ∃ w7, Hid (w6.setCell ⟨r, 8, none⟩ (.int .i64 s) = w7) := ⟨_, Lib.hid rfl⟩
  rw [HW7.out]
  have hf7 : Foot (fun j => j = r) w6 w7 := by rw [← HW7.out]; exact Foot.set (fun j => j = r) _ _ _ rfl
  have HP7 := Lib.hid (HP6.out.foot hf7 HD.out.2.1)
  have HQ7 := Lib.hid (HQ6.out.foot hf7 HD.out.2.2)
  have HR7 : Hid (MlBox w7 r mc (.slice A m.es.length c)) := by show MlBox _ _ _ _; rw [← HW7.out, ← HMC.out]; exact MlBox.set8 HR6.out s
  have HB07 : Hid (Below w0.heap.size w0 w7) := by show Below _ _ _; rw [← HW7.out]; exact HB06.out.setCell HL.out.2.2 _
  have HB7 := Lib.hid (HB0.out.trans (HB07.out.mono HB0.out.size))
  have HX7 := Lib.hid (HBX.out w7 HB07.out)
  clear q8 f8 hf7 HW7 HP6 HQ6 HR6 HB06 HBX HD HL HMA HMB HMC HB0
  go_cut [12] (fun u12 wx => u12 = .bool bi ∧ wx = w7)
  case first =>
    by_cases h0 : 0 ≤ e
    · have t0 : decide (0 ≤ e) = true := decide_eq_true h0
      by_cases h1 : e < n
      · have t1 : decide (e < n) = true := decide_eq_true h1
        go_wp2_with fail
        go_meet
        case rel => exact ⟨by rw [← HBI.out, decide_eq_true ⟨h0, h1⟩], rfl⟩
      · have t1 : decide (e < n) = false := decide_eq_false h1
        go_wp2_with fail
        go_meet
        case rel => exact ⟨by rw [← HBI.out, decide_eq_false (by omega)], rfl⟩
    · have t0 : decide (0 ≤ e) = false := decide_eq_false h0
      go_wp2_with fail
      go_meet
      case rel => exact ⟨by rw [← HBI.out, decide_eq_false (by omega)], rfl⟩
  case rest =>
  obtain ⟨rfl, rfl⟩ := hcut
  obtain ⟨w8, hw8⟩ : ∃ w8, w8 = wc := ⟨_, rfl⟩
  subst hw8
  clear HBI HB07
  obtain ⟨hb, HHB⟩ : ∃ b, Hid (hasS m.ki = b) := ⟨_, Lib.hid rfl⟩
  have k0 := HX7.out.cell 0
  simp only [Ml.cells, List.getElem?_cons_zero] at k0
  go_upto_region 9 with fail
  go_cut [13] (fun u13 wx => u13 = .bool hb ∧ wx = w8)
  case first =>
    have hh := HHB.out
    obtain ⟨z, hz⟩ : ∃ z, m.ki = z := ⟨_, rfl⟩
    rw [hz] at k0 hh
    clear HHB HEA HEB HEC HCA HCB HCC HWK HP7 HQ7 HR7 HB7 HX7
    by_cases h1 : z = 1
    · subst h1
      go_wp2_with fail
      go_meet
      case rel => exact ⟨by rw [← hh]; simp [hasS], rfl⟩
    by_cases h2 : z = 2
    · subst h2
      go_wp2_with fail
      go_meet
      case rel => exact ⟨by rw [← hh]; simp [hasS], rfl⟩
    by_cases h4 : z = 4
    · subst h4
      go_wp2_with fail
      go_meet
      case rel => exact ⟨by rw [← hh]; simp [hasS], rfl⟩
    by_cases h5 : z = 5
    · subst h5
      go_wp2_with fail
      go_meet
      case rel => exact ⟨by rw [← hh]; simp [hasS], rfl⟩
    have g1 : (z == 1) = false := by simp [h1]
    have g2 : (z == 2) = false := by simp [h2]
    have g4 : (z == 4) = false := by simp [h4]
    have g5 : (z == 5) = false := by simp [h5]
    have d1 : decide (z = 1) = false := decide_eq_false h1
    have d2 : decide (z = 2) = false := decide_eq_false h2
    have d4 : decide (z = 4) = false := decide_eq_false h4
    have d5 : decide (z = 5) = false := decide_eq_false h5
    go_wp2_with fail
    go_meet
    case rel => exact ⟨by rw [← hh]; simp [hasS, h1, h2, h4, h5], rfl⟩
  case rest =>
  obtain ⟨rfl, rfl⟩ := hcut
  obtain ⟨w9, hw9⟩ : ∃ w9, w9 = wc := ⟨_, rfl⟩
  subst hw9
  have hec := HEC.out
  have hea := HEA.out
  have heb := HEB.out
  rw [HHB.out] at hec
  have hla := HP7.out.load
  have HLQ := Lib.hid (fun X (hX : Below w9.heap.size w9 X) => (HQ7.out.bel hX HQ7.out.lt).load)
  have HLR := Lib.hid (fun X (hX : Below w9.heap.size w9 X) => (HR7.out.bel hX HR7.out.lt).load)
  simp only [Ml.v] at hla HLQ HLR
  clear k0 HHB HX7 HEA HEB HEC HP7 HQ7 HR7 c9 hs0
  rcases bi with _ | _
  · rw [show ma.err n = 2 from hea] at HCA
    rw [show mb.err n = 2 from heb] at HCB
    by_cases hs : s = 0
    · have HS : s = 0 ∨ (hb = true ∧ 0 < s ∧ s ≤ 1073741824) := Or.inl hs
      subst hs
      rw [show mc.err n = 0 from hec.trans (if_pos HS)] at HCC
      clear hec HS hea heb
      go_wp2_with (refine wpList_load_run rfl 45  _ rfl ⟨p, 0, none⟩ rfl hla ?_)
      refine (HCA.out _ HB7.out).mono ?_
      rintro e3 wb ⟨rfl, hbb⟩
      have HBb := Lib.hid (HB7.out.trans (hbb.mono HB7.out.size))
      have hlb := HLQ.out _ hbb
      have HB9 := Lib.hid hbb
      clear hbb hla
      go_wp2_with (refine wpList_load_want (by kernel_rfl) 45  _ rfl ⟨q, 0, none⟩ rfl hlb ?_)
      refine (HCB.out _ HBb.out).mono ?_
      rintro e4 wd ⟨rfl, hbd⟩
      have HBd := Lib.hid (HBb.out.trans (hbd.mono HBb.out.size))
      have hlc := HLR.out _ (HB9.out.trans (hbd.mono HB9.out.size))
      clear hbd hlb
      go_wp2_with (refine wpList_load_want (by kernel_rfl) 45  _ rfl ⟨r, 0, none⟩ rfl hlc ?_)
      refine (HCC.out _ HBd.out).mono ?_
      rintro e5 we ⟨rfl, hbe⟩
      have HBe := Lib.hid (HBd.out.trans (hbe.mono HBd.out.size))
      clear hbe hlc
      go_wp2_with fail
      refine (HWK.out _ HBe.out).mono ?_
      rintro e6 wf ⟨rfl, hbf⟩
      go_wp2_with fail
      go_ret
      exact ⟨rfl, HBe.out.trans (hbf.mono HBe.out.size)⟩
    have g0 : (s == 0) = false := by simp [hs]
    have d0 : decide (s = 0) = false := decide_eq_false hs
    rcases hb with _ | _
    · have HS : ¬ (s = 0 ∨ (false = true ∧ 0 < s ∧ s ≤ 1073741824)) := by simp [hs]
      rw [show mc.err n = 2 from hec.trans (if_neg HS)] at HCC
      clear hec HS hea heb
      go_wp2_with (refine wpList_load_run rfl 45  _ rfl ⟨p, 0, none⟩ rfl hla ?_)
      refine (HCA.out _ HB7.out).mono ?_
      rintro e3 wb ⟨rfl, hbb⟩
      have HBb := Lib.hid (HB7.out.trans (hbb.mono HB7.out.size))
      have hlb := HLQ.out _ hbb
      have HB9 := Lib.hid hbb
      clear hbb hla
      go_wp2_with (refine wpList_load_want (by kernel_rfl) 45  _ rfl ⟨q, 0, none⟩ rfl hlb ?_)
      refine (HCB.out _ HBb.out).mono ?_
      rintro e4 wd ⟨rfl, hbd⟩
      have HBd := Lib.hid (HBb.out.trans (hbd.mono HBb.out.size))
      have hlc := HLR.out _ (HB9.out.trans (hbd.mono HB9.out.size))
      clear hbd hlb
      go_wp2_with (refine wpList_load_want (by kernel_rfl) 45  _ rfl ⟨r, 0, none⟩ rfl hlc ?_)
      refine (HCC.out _ HBd.out).mono ?_
      rintro e5 we ⟨rfl, hbe⟩
      have HBe := Lib.hid (HBd.out.trans (hbe.mono HBd.out.size))
      clear hbe hlc
      go_wp2_with fail
      refine (HWK.out _ HBe.out).mono ?_
      rintro e6 wf ⟨rfl, hbf⟩
      go_wp2_with fail
      go_ret
      exact ⟨rfl, HBe.out.trans (hbf.mono HBe.out.size)⟩
    by_cases hp : 0 < s
    · have d1 : decide (0 < s) = true := decide_eq_true hp
      by_cases hm : s ≤ 1073741824
      · have d2 : decide (s ≤ 1073741824) = true := decide_eq_true hm
        have HS : s = 0 ∨ (true = true ∧ 0 < s ∧ s ≤ 1073741824) := Or.inr ⟨rfl, hp, hm⟩
        rw [show mc.err n = 0 from hec.trans (if_pos HS)] at HCC
        clear hec HS hea heb
        go_wp2_with (refine wpList_load_run rfl 45  _ rfl ⟨p, 0, none⟩ rfl hla ?_)
        refine (HCA.out _ HB7.out).mono ?_
        rintro e3 wb ⟨rfl, hbb⟩
        have HBb := Lib.hid (HB7.out.trans (hbb.mono HB7.out.size))
        have hlb := HLQ.out _ hbb
        have HB9 := Lib.hid hbb
        clear hbb hla
        go_wp2_with (refine wpList_load_want (by kernel_rfl) 45  _ rfl ⟨q, 0, none⟩ rfl hlb ?_)
        refine (HCB.out _ HBb.out).mono ?_
        rintro e4 wd ⟨rfl, hbd⟩
        have HBd := Lib.hid (HBb.out.trans (hbd.mono HBb.out.size))
        have hlc := HLR.out _ (HB9.out.trans (hbd.mono HB9.out.size))
        clear hbd hlb
        go_wp2_with (refine wpList_load_want (by kernel_rfl) 45  _ rfl ⟨r, 0, none⟩ rfl hlc ?_)
        refine (HCC.out _ HBd.out).mono ?_
        rintro e5 we ⟨rfl, hbe⟩
        have HBe := Lib.hid (HBd.out.trans (hbe.mono HBd.out.size))
        clear hbe hlc
        go_wp2_with fail
        refine (HWK.out _ HBe.out).mono ?_
        rintro e6 wf ⟨rfl, hbf⟩
        go_wp2_with fail
        go_ret
        exact ⟨rfl, HBe.out.trans (hbf.mono HBe.out.size)⟩
      · have d2 : decide (s ≤ 1073741824) = false := decide_eq_false hm
        have HS : ¬ (s = 0 ∨ (true = true ∧ 0 < s ∧ s ≤ 1073741824)) := fun h => h.elim hs (fun h => hm h.2.2)
        rw [show mc.err n = 2 from hec.trans (if_neg HS)] at HCC
        clear hec HS hea heb
        go_wp2_with (refine wpList_load_run rfl 45  _ rfl ⟨p, 0, none⟩ rfl hla ?_)
        refine (HCA.out _ HB7.out).mono ?_
        rintro e3 wb ⟨rfl, hbb⟩
        have HBb := Lib.hid (HB7.out.trans (hbb.mono HB7.out.size))
        have hlb := HLQ.out _ hbb
        have HB9 := Lib.hid hbb
        clear hbb hla
        go_wp2_with (refine wpList_load_want (by kernel_rfl) 45  _ rfl ⟨q, 0, none⟩ rfl hlb ?_)
        refine (HCB.out _ HBb.out).mono ?_
        rintro e4 wd ⟨rfl, hbd⟩
        have HBd := Lib.hid (HBb.out.trans (hbd.mono HBb.out.size))
        have hlc := HLR.out _ (HB9.out.trans (hbd.mono HB9.out.size))
        clear hbd hlb
        go_wp2_with (refine wpList_load_want (by kernel_rfl) 45  _ rfl ⟨r, 0, none⟩ rfl hlc ?_)
        refine (HCC.out _ HBd.out).mono ?_
        rintro e5 we ⟨rfl, hbe⟩
        have HBe := Lib.hid (HBd.out.trans (hbe.mono HBd.out.size))
        clear hbe hlc
        go_wp2_with fail
        refine (HWK.out _ HBe.out).mono ?_
        rintro e6 wf ⟨rfl, hbf⟩
        go_wp2_with fail
        go_ret
        exact ⟨rfl, HBe.out.trans (hbf.mono HBe.out.size)⟩
    · have d1 : decide (0 < s) = false := decide_eq_false hp
      have HS : ¬ (s = 0 ∨ (true = true ∧ 0 < s ∧ s ≤ 1073741824)) := fun h => h.elim hs (fun h => hp h.2.1)
      rw [show mc.err n = 2 from hec.trans (if_neg HS)] at HCC
      clear hec HS hea heb
      go_wp2_with (refine wpList_load_run rfl 45  _ rfl ⟨p, 0, none⟩ rfl hla ?_)
      refine (HCA.out _ HB7.out).mono ?_
      rintro e3 wb ⟨rfl, hbb⟩
      have HBb := Lib.hid (HB7.out.trans (hbb.mono HB7.out.size))
      have hlb := HLQ.out _ hbb
      have HB9 := Lib.hid hbb
      clear hbb hla
      go_wp2_with (refine wpList_load_want (by kernel_rfl) 45  _ rfl ⟨q, 0, none⟩ rfl hlb ?_)
      refine (HCB.out _ HBb.out).mono ?_
      rintro e4 wd ⟨rfl, hbd⟩
      have HBd := Lib.hid (HBb.out.trans (hbd.mono HBb.out.size))
      have hlc := HLR.out _ (HB9.out.trans (hbd.mono HB9.out.size))
      clear hbd hlb
      go_wp2_with (refine wpList_load_want (by kernel_rfl) 45  _ rfl ⟨r, 0, none⟩ rfl hlc ?_)
      refine (HCC.out _ HBd.out).mono ?_
      rintro e5 we ⟨rfl, hbe⟩
      have HBe := Lib.hid (HBd.out.trans (hbe.mono HBd.out.size))
      clear hbe hlc
      go_wp2_with fail
      refine (HWK.out _ HBe.out).mono ?_
      rintro e6 wf ⟨rfl, hbf⟩
      go_wp2_with fail
      go_ret
      exact ⟨rfl, HBe.out.trans (hbf.mono HBe.out.size)⟩
  · rw [show ma.err n = 0 from hea] at HCA
    rw [show mb.err n = 0 from heb] at HCB
    by_cases hs : s = 0
    · have HS : s = 0 ∨ (hb = true ∧ 0 < s ∧ s ≤ 1073741824) := Or.inl hs
      subst hs
      rw [show mc.err n = 0 from hec.trans (if_pos HS)] at HCC
      clear hec HS hea heb
      go_wp2_with (refine wpList_load_run rfl 45  _ rfl ⟨p, 0, none⟩ rfl hla ?_)
      refine (HCA.out _ HB7.out).mono ?_
      rintro e3 wb ⟨rfl, hbb⟩
      have HBb := Lib.hid (HB7.out.trans (hbb.mono HB7.out.size))
      have hlb := HLQ.out _ hbb
      have HB9 := Lib.hid hbb
      clear hbb hla
      go_wp2_with (refine wpList_load_want (by kernel_rfl) 45  _ rfl ⟨q, 0, none⟩ rfl hlb ?_)
      refine (HCB.out _ HBb.out).mono ?_
      rintro e4 wd ⟨rfl, hbd⟩
      have HBd := Lib.hid (HBb.out.trans (hbd.mono HBb.out.size))
      have hlc := HLR.out _ (HB9.out.trans (hbd.mono HB9.out.size))
      clear hbd hlb
      go_wp2_with (refine wpList_load_want (by kernel_rfl) 45  _ rfl ⟨r, 0, none⟩ rfl hlc ?_)
      refine (HCC.out _ HBd.out).mono ?_
      rintro e5 we ⟨rfl, hbe⟩
      have HBe := Lib.hid (HBd.out.trans (hbe.mono HBd.out.size))
      clear hbe hlc
      go_wp2_with fail
      refine (HWK.out _ HBe.out).mono ?_
      rintro e6 wf ⟨rfl, hbf⟩
      go_wp2_with fail
      go_ret
      exact ⟨rfl, HBe.out.trans (hbf.mono HBe.out.size)⟩
    have g0 : (s == 0) = false := by simp [hs]
    have d0 : decide (s = 0) = false := decide_eq_false hs
    rcases hb with _ | _
    · have HS : ¬ (s = 0 ∨ (false = true ∧ 0 < s ∧ s ≤ 1073741824)) := by simp [hs]
      rw [show mc.err n = 2 from hec.trans (if_neg HS)] at HCC
      clear hec HS hea heb
      go_wp2_with (refine wpList_load_run rfl 45  _ rfl ⟨p, 0, none⟩ rfl hla ?_)
      refine (HCA.out _ HB7.out).mono ?_
      rintro e3 wb ⟨rfl, hbb⟩
      have HBb := Lib.hid (HB7.out.trans (hbb.mono HB7.out.size))
      have hlb := HLQ.out _ hbb
      have HB9 := Lib.hid hbb
      clear hbb hla
      go_wp2_with (refine wpList_load_want (by kernel_rfl) 45  _ rfl ⟨q, 0, none⟩ rfl hlb ?_)
      refine (HCB.out _ HBb.out).mono ?_
      rintro e4 wd ⟨rfl, hbd⟩
      have HBd := Lib.hid (HBb.out.trans (hbd.mono HBb.out.size))
      have hlc := HLR.out _ (HB9.out.trans (hbd.mono HB9.out.size))
      clear hbd hlb
      go_wp2_with (refine wpList_load_want (by kernel_rfl) 45  _ rfl ⟨r, 0, none⟩ rfl hlc ?_)
      refine (HCC.out _ HBd.out).mono ?_
      rintro e5 we ⟨rfl, hbe⟩
      have HBe := Lib.hid (HBd.out.trans (hbe.mono HBd.out.size))
      clear hbe hlc
      go_wp2_with fail
      refine (HWK.out _ HBe.out).mono ?_
      rintro e6 wf ⟨rfl, hbf⟩
      go_wp2_with fail
      go_ret
      exact ⟨rfl, HBe.out.trans (hbf.mono HBe.out.size)⟩
    by_cases hp : 0 < s
    · have d1 : decide (0 < s) = true := decide_eq_true hp
      by_cases hm : s ≤ 1073741824
      · have d2 : decide (s ≤ 1073741824) = true := decide_eq_true hm
        have HS : s = 0 ∨ (true = true ∧ 0 < s ∧ s ≤ 1073741824) := Or.inr ⟨rfl, hp, hm⟩
        rw [show mc.err n = 0 from hec.trans (if_pos HS)] at HCC
        clear hec HS hea heb
        go_wp2_with (refine wpList_load_run rfl 45  _ rfl ⟨p, 0, none⟩ rfl hla ?_)
        refine (HCA.out _ HB7.out).mono ?_
        rintro e3 wb ⟨rfl, hbb⟩
        have HBb := Lib.hid (HB7.out.trans (hbb.mono HB7.out.size))
        have hlb := HLQ.out _ hbb
        have HB9 := Lib.hid hbb
        clear hbb hla
        go_wp2_with (refine wpList_load_want (by kernel_rfl) 45  _ rfl ⟨q, 0, none⟩ rfl hlb ?_)
        refine (HCB.out _ HBb.out).mono ?_
        rintro e4 wd ⟨rfl, hbd⟩
        have HBd := Lib.hid (HBb.out.trans (hbd.mono HBb.out.size))
        have hlc := HLR.out _ (HB9.out.trans (hbd.mono HB9.out.size))
        clear hbd hlb
        go_wp2_with (refine wpList_load_want (by kernel_rfl) 45  _ rfl ⟨r, 0, none⟩ rfl hlc ?_)
        refine (HCC.out _ HBd.out).mono ?_
        rintro e5 we ⟨rfl, hbe⟩
        have HBe := Lib.hid (HBd.out.trans (hbe.mono HBd.out.size))
        clear hbe hlc
        go_wp2_with fail
        refine (HWK.out _ HBe.out).mono ?_
        rintro e6 wf ⟨rfl, hbf⟩
        go_wp2_with fail
        go_ret
        exact ⟨rfl, HBe.out.trans (hbf.mono HBe.out.size)⟩
      · have d2 : decide (s ≤ 1073741824) = false := decide_eq_false hm
        have HS : ¬ (s = 0 ∨ (true = true ∧ 0 < s ∧ s ≤ 1073741824)) := fun h => h.elim hs (fun h => hm h.2.2)
        rw [show mc.err n = 2 from hec.trans (if_neg HS)] at HCC
        clear hec HS hea heb
        go_wp2_with (refine wpList_load_run rfl 45  _ rfl ⟨p, 0, none⟩ rfl hla ?_)
        refine (HCA.out _ HB7.out).mono ?_
        rintro e3 wb ⟨rfl, hbb⟩
        have HBb := Lib.hid (HB7.out.trans (hbb.mono HB7.out.size))
        have hlb := HLQ.out _ hbb
        have HB9 := Lib.hid hbb
        clear hbb hla
        go_wp2_with (refine wpList_load_want (by kernel_rfl) 45  _ rfl ⟨q, 0, none⟩ rfl hlb ?_)
        refine (HCB.out _ HBb.out).mono ?_
        rintro e4 wd ⟨rfl, hbd⟩
        have HBd := Lib.hid (HBb.out.trans (hbd.mono HBb.out.size))
        have hlc := HLR.out _ (HB9.out.trans (hbd.mono HB9.out.size))
        clear hbd hlb
        go_wp2_with (refine wpList_load_want (by kernel_rfl) 45  _ rfl ⟨r, 0, none⟩ rfl hlc ?_)
        refine (HCC.out _ HBd.out).mono ?_
        rintro e5 we ⟨rfl, hbe⟩
        have HBe := Lib.hid (HBd.out.trans (hbe.mono HBd.out.size))
        clear hbe hlc
        go_wp2_with fail
        refine (HWK.out _ HBe.out).mono ?_
        rintro e6 wf ⟨rfl, hbf⟩
        go_wp2_with fail
        go_ret
        exact ⟨rfl, HBe.out.trans (hbf.mono HBe.out.size)⟩
    · have d1 : decide (0 < s) = false := decide_eq_false hp
      have HS : ¬ (s = 0 ∨ (true = true ∧ 0 < s ∧ s ≤ 1073741824)) := fun h => h.elim hs (fun h => hp h.2.1)
      rw [show mc.err n = 2 from hec.trans (if_neg HS)] at HCC
      clear hec HS hea heb
      go_wp2_with (refine wpList_load_run rfl 45  _ rfl ⟨p, 0, none⟩ rfl hla ?_)
      refine (HCA.out _ HB7.out).mono ?_
      rintro e3 wb ⟨rfl, hbb⟩
      have HBb := Lib.hid (HB7.out.trans (hbb.mono HB7.out.size))
      have hlb := HLQ.out _ hbb
      have HB9 := Lib.hid hbb
      clear hbb hla
      go_wp2_with (refine wpList_load_want (by kernel_rfl) 45  _ rfl ⟨q, 0, none⟩ rfl hlb ?_)
      refine (HCB.out _ HBb.out).mono ?_
      rintro e4 wd ⟨rfl, hbd⟩
      have HBd := Lib.hid (HBb.out.trans (hbd.mono HBb.out.size))
      have hlc := HLR.out _ (HB9.out.trans (hbd.mono HB9.out.size))
      clear hbd hlb
      go_wp2_with (refine wpList_load_want (by kernel_rfl) 45  _ rfl ⟨r, 0, none⟩ rfl hlc ?_)
      refine (HCC.out _ HBd.out).mono ?_
      rintro e5 we ⟨rfl, hbe⟩
      have HBe := Lib.hid (HBd.out.trans (hbe.mono HBd.out.size))
      clear hbe hlc
      go_wp2_with fail
      refine (HWK.out _ HBe.out).mono ?_
      rintro e6 wf ⟨rfl, hbf⟩
      go_wp2_with fail
      go_ret
      exact ⟨rfl, HBe.out.trans (hbf.mono HBe.out.size)⟩
end Go.Proofs.YtoipjnboekjjaaaDoor.mailEndsW

namespace Go.Proofs.YtoipjnboekjjaaaDoor.mailEnds
open Go.ChangeShapes Go.WideShapes Go.ChangeAt Go.RowKit
open Go.ChangeMaps (open_string shut_string)
theorem cellsPair : Tryd.prog.cellsOf 56 = 2 := by kernel_rfl
theorem one_int {H : Type} {enc : TypeId × Value → H} {w : World} {sp : Nat → Bool} {fuel : Nat} {c : Value} {y : DataW H × List MemPlace} (h : DataW.trod enc Tryd.prog w 0 sp true fuel 3 [c] = some y) : ∃ n, c = .int .i64 n := by
  obtain ⟨n, e, _, _⟩ := DataW.trod_int Tryd.underlying3 h
  injection e with e
  exact ⟨n, e⟩
set_option maxRecDepth 100000 in
theorem open_pair {H : Type} {enc : TypeId × Value → H} {w : World} {sp : Nat → Bool} {fuel : Nat} {cs : List Value} {y : DataW H × List MemPlace} (h : DataW.trod enc Tryd.prog w 0 sp true fuel 56 cs = some y) :
    ∃ a b, cs = [.int .i64 a, .int .i64 b] := by
  obtain ⟨xs, m, _, _, hl, hlen, hf⟩ := DataW.trod_array Tryd.underlying56 h
  rw [cellsPair] at hl
  match cs, hl with
  | [c0, c1], _ =>
    match xs, hlen with
    | [y0, y1], _ =>
      have g0 := hf 0 (by decide)
      have g1 := hf 1 (by decide)
      rw [cInt] at g0 g1
      obtain ⟨a, rfl⟩ := one_int g0
      obtain ⟨b, rfl⟩ := one_int g1
      exact ⟨a, b, rfl⟩
theorem own : ownKnob Tryd.prog.godebug = none := by kernel_rfl
theorem laidOut : laidOutB Tryd.prog = true := by kernel_rfl
theorem okWide_array {P : Program} {w : World} {r : Reach} {base n : Nat} {t e : TypeId} {v : Value} (ht : P.underlying t = some (.array n e)) (h : Value.okWide P w r base t v) : ∃ cs, v = .agg cs ∧ cs.size = P.cellsOf t := by
  simp only [Value.okWide, ht] at h
  obtain ⟨cs, h1, h2, _⟩ := h
  exact ⟨cs, h1, h2⟩
noncomputable def laidWorld (os : Os) : World :=
  { World.holding Tryd.prog os ⟨#[], #[], []⟩ with heap := ((((((((((World.holding Tryd.prog os ⟨#[], #[], []⟩).heap.modify 0 fun
      | .cells _ t frozen => .cells #[.int .i64 1, .int .i64 2147483647, .int .i64 0, .int .i64 3, .int .i64 (-1), .int .i64 2147483647, .int .i64 1, .int .i64 4, .int .i64 (-1048576), .int .i64 1048576] t frozen
      | o => o).modify 1 fun
      | .cells _ t frozen => .cells #[.int .i64 0, .int .i64 3] t frozen
      | o => o).modify 2 fun
      | .cells _ t frozen => .cells #[.int .i64 1, .int .i64 1048576] t frozen
      | o => o).modify 4 fun
      | .cells _ t frozen => .cells #[.int .i64 0, .int .i64 1048576] t frozen
      | o => o).modify 3 fun
      | .cells _ t frozen => .cells #[.int .i64 0, .int .i64 64] t frozen
      | o => o).modify 6 fun
      | .cells _ t frozen => .cells #[.int .i64 0, .int .i64 63] t frozen
      | o => o).modify 5 fun
      | .cells _ t frozen => .cells #[.int .i64 0, .int .i64 256] t frozen
      | o => o).modify 7 fun
      | .cells _ t frozen => .cells #[.int .u64 0, .int .u64 35, .int .u64 119, .int .u64 3, .int .u64 123, .int .u64 51, .int .u64 19, .int .u64 128, .int .u64 257, .int .u64 3, .int .u64 3] t frozen
      | o => o).modify 8 fun
      | .cells _ t frozen => .cells #[.int .u64 1, .int .i64 0, .int .i64 3, .int .u64 2, .int .i64 1, .int .i64 1048576, .int .u64 4, .int .i64 0, .int .i64 1048576, .int .u64 8, .int .i64 0, .int .i64 64, .int .u64 16, .int .i64 0, .int .i64 64, .int .u64 32, .int .i64 0, .int .i64 1073741824] t frozen
      | o => o) }
theorem laid_met (os : Os) : laidMet Tryd.prog Rows.mailEndsRow.laid ((laidWorld os).forCall (fun _ _ => 0) ⟨#[], #[.agg #[.int .i64 0, .int .i64 0, .int .i64 0, .int .i64 0, .int .i64 0, .int .i64 0, .int .i64 0, .int .i64 0, .int .i64 0, .slice none 0 0, .int .i64 0, .int .i64 0, .int .i64 0, .int .i64 0, .int .i64 0, .int .i64 0, .int .i64 0, .int .i64 0], .int .i64 0, .agg #[.int .i64 0, .int .i64 0]], []⟩).memory :=
  laidMet_of_run' 8 (by kernel_rfl) (by kernel_rfl)
theorem reads (os : Os) {H : Type} (enc : TypeId × Value → H) : ∃ places, DataW.whole enc Tryd.prog ((laidWorld os).forCall (fun _ _ => 0) ⟨#[], #[.agg #[.int .i64 0, .int .i64 0, .int .i64 0, .int .i64 0, .int .i64 0, .int .i64 0, .int .i64 0, .int .i64 0, .int .i64 0, .slice none 0 0, .int .i64 0, .int .i64 0, .int .i64 0, .int .i64 0, .int .i64 0, .int .i64 0, .int .i64 0, .int .i64 0], .int .i64 0, .agg #[.int .i64 0, .int .i64 0]], []⟩).memory Tryd.f9.params.toList Rows.mailEndsSpec.vars false (#[.agg #[.int .i64 0, .int .i64 0, .int .i64 0, .int .i64 0, .int .i64 0, .int .i64 0, .int .i64 0, .int .i64 0, .int .i64 0, .slice none 0 0, .int .i64 0, .int .i64 0, .int .i64 0, .int .i64 0, .int .i64 0, .int .i64 0, .int .i64 0, .int .i64 0], .int .i64 0, .agg #[.int .i64 0, .int .i64 0]] : Array Value).toList 8 = some ([.agg [.lit (.int .i64 0), .lit (.int .i64 0), .lit (.int .i64 0), .lit (.int .i64 0), .lit (.int .i64 0), .lit (.int .i64 0), .lit (.int .i64 0), .lit (.int .i64 0), .lit (.int .i64 0), .nil, .agg [.lit (.int .i64 0), .lit (.int .i64 0), .lit (.int .i64 0), .lit (.int .i64 0), .lit (.int .i64 0)], .agg [.lit (.int .i64 0), .lit (.int .i64 0), .lit (.int .i64 0)]], .lit (.int .i64 0), .agg [.lit (.int .i64 0), .lit (.int .i64 0)]], [], places) :=
  ⟨[], by kernel_rfl⟩
set_option maxRecDepth 100000 in
theorem lifted (os : Os) (started : os.Started) (H : Type) (enc : TypeId × Value → H) (F : Stop.Interp) :
    ReturnsInHanded {} Tryd.checked os 9 .any ((OpenSpec.ofChange Rows.mailEndsSpec).preRow enc Tryd.prog Tryd.f9 Rows.mailEndsRow.domain false Rows.mailEndsRow.laid) (((OpenSpec.ofChange Rows.mailEndsSpec).at F).post enc Tryd.prog Tryd.f9 false true false false) := by
  obtain ⟨places, hx⟩ := reads os enc
  refine returnsInHanded_of_row (C := Tryd.checked) (s := OpenSpec.ofChange Rows.mailEndsSpec) own started (by kernel_rfl) Tryd.func9
    (witness_row_at (enc := enc) (C := Tryd.checked) false (laidWorld os) #[.agg #[.int .i64 0, .int .i64 0, .int .i64 0, .int .i64 0, .int .i64 0, .int .i64 0, .int .i64 0, .int .i64 0, .int .i64 0, .slice none 0 0, .int .i64 0, .int .i64 0, .int .i64 0, .int .i64 0, .int .i64 0, .int .i64 0, .int .i64 0, .int .i64 0], .int .i64 0, .agg #[.int .i64 0, .int .i64 0]] rfl (by kernel_rfl) (by kernel_rfl) (by kernel_rfl)
      (OpenSpec.preRow_of_cond 8 hx (by kernel_rfl) (fun k hk => by cases hk) (by kernel_rfl) (laid_met os))) ?_
  intro W base args ds gs before hval0 hW _ _ hsz hL _ _
  have hAsk : AskM W := askM_of hL
  have hval : ∀ (j : Nat) t v, Tryd.f9.params[j]? = some t → args[j]? = some v → Value.okWide Tryd.prog W .any base t v := hval0
  have hW' := hW
  obtain ⟨p, q, hA0, hV, rfl, hfz, hnd⟩ := hW
  have hA : DataW.TrodAll enc Tryd.prog W 0 (fun _ => true) true Tryd.f9.params.toList args.toList ds p := hA0
  rw [Tryd.params9] at hA hval
  obtain ⟨v0, vs0, d0, ds0, p0, q0, hargs, rfl, rfl, h0, r0⟩ := trodAll_cons hA
  obtain ⟨v1, vs1, d1, ds1, p1, q1, rfl, rfl, rfl, h1, r1⟩ := trodAll_cons r0
  obtain ⟨v2, vs2, d2, ds2, p2, q2, rfl, rfl, rfl, h2, r2⟩ := trodAll_cons r1
  obtain ⟨rfl, rfl, rfl⟩ := trodAll_nil r2
  obtain rfl : args = #[v0, v1, v2] := by cases args; simp_all
  obtain ⟨rfl, rfl⟩ := trodVars_none hV
  obtain ⟨cs0, rfl, hsz0⟩ := okWide_struct Tryd.underlying45 (hval 0 45 v0 rfl rfl)
  have k0 := h0
  have lt0 : ∀ x ∈ p0, x.block < W.heap.size := by obtain ⟨m, hm⟩ := k0; exact DataW.trod_lt m _ _ _ hm
  obtain ⟨o0, A0, c0, hx0, e0, w0⟩ : ∃ (m : Ml) (A : Option Addr) (c : Nat), cs0.toList = m.cells (.slice A m.es.length c) ∧ EsB W.heap.size W (.slice A m.es.length c) m.es ∧ m.ints := by obtain ⟨fuel, hf⟩ := h0; exact open_ml hf
  obtain rfl : cs0 = (o0.cells (.slice A0 o0.es.length c0)).toArray := by rw [← hx0]
  obtain ⟨a1, rfl, rfl, rfl, w1⟩ := open_int Tryd.underlying3 (hval 1 3 v1 rfl rfl) h1
  obtain ⟨cs2, rfl, hsz2⟩ := okWide_array Tryd.underlying56 (hval 2 56 v2 rfl rfl)
  have k2 := h2
  have lt2 : ∀ x ∈ p2, x.block < W.heap.size := by obtain ⟨m, hm⟩ := k2; exact DataW.trod_lt m _ _ _ hm
  obtain ⟨x2_0, x2_1, hx2⟩ := (by obtain ⟨fuel, hf⟩ := h2; exact open_pair hf : ∃ a0 a1, cs2.toList = [.int .i64 a0, .int .i64 a1])
  obtain rfl : cs2 = #[.int .i64 x2_0, .int .i64 x2_1] := Array.toList_inj.1 hx2
  clear hA0 hval0
  refine (mailEndsW.walk o0 A0 c0 a1 x2_0 x2_1 W hAsk e0 w0 w1).mono fun e W' ⟨he, bel⟩ => ?_
  subst he
  exact ⟨_, rfl, _, _, _, [], _, [], hW', trodAll_mk1 (shut_bool Tryd.underlying4 _), (trodAll_cons_mk (Below.trod laidOut (by kernel_rfl) (of_decide_eq_true (by kernel_rfl)) k0 bel lt0) (trodAll_cons_mk (shut_int Tryd.underlying3 w1) (trodAll_cons_mk (Below.trod laidOut (by kernel_rfl) (of_decide_eq_true (by kernel_rfl)) k2 bel lt2) trodAll_mk0))), rfl, bel.frame _, fun h => by cases h⟩
theorem said : Rows.MailEndsSaid :=
  OpenClaim.holds_of_cond 9 Tryd.f9 rfl rfl rfl rfl rfl rfl rfl ⟨rfl, rfl, rfl, rfl, rfl⟩ rfl rfl rfl rfl rfl (by kernel_rfl) Tryd.func9 (by kernel_rfl)
    (of_decide_eq_true (by kernel_rfl)) (by unfold Func.isWrapper; first | (rw [if_pos (by decide +kernel)]; kernel_rfl) | (rw [if_neg (by decide +kernel)]; exact ⟨rfl, rfl⟩))
    (fun os started H enc _ F => by rw [OpenClaim.pre_eq_preRow]; exact lifted os started H enc F)
theorem plain (f : FuncId) (fn : Func) (hf : Tryd.pinned.checked.prog.funcNamed "archipelago/archipelagolaw11.MailEnds" = some f) (hfn : Tryd.pinned.checked.prog.funcs[f]? = some fn) :
    false = Tryd.pinned.checked.prog.looks [] ∧ ∀ (j : Nat) t, fn.params[j]? = some t → Tryd.pinned.checked.prog.wantsStandIn t = false := by
  obtain rfl : f = 9 := Option.some.inj ((show Tryd.prog.funcNamed "archipelago/archipelagolaw11.MailEnds" = some 9 by kernel_rfl).symm.trans hf) |>.symm
  obtain rfl : fn = Tryd.f9 := (Option.some.inj (Tryd.func9.symm.trans hfn)).symm
  refine ⟨by kernel_rfl, fun j t ht => ?_⟩
  rw [Tryd.params9] at ht
  have hm := Array.mem_of_getElem? ht
  have ht' : t = 45 ∨ t = 3 ∨ t = 56 := by simpa using hm
  rcases ht' with rfl | rfl | rfl
  · exact (show Tryd.prog.wantsStandIn 45 = false by kernel_rfl)
  · exact (show Tryd.prog.wantsStandIn 3 = false by kernel_rfl)
  · exact (show Tryd.prog.wantsStandIn 56 = false by kernel_rfl)
theorem proved : Rows.MailEndsCardSaid :=
  Claim7.holds_tied_plain_at .later [] _ _ _ _ said (fun _ h => by cases h) (by kernel_rfl) (fun _ h => by cases h) mailEnds_row_tie rfl ⟨rfl, rfl⟩ (by kernel_rfl) rfl plain (by kernel_rfl)
end Go.Proofs.YtoipjnboekjjaaaDoor.mailEnds
