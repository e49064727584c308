/-
  RegisterPieces: the walk.
-/
import Derived.Test.YtnbhdehpdfojlaaDoorRgCut
import Derived.Test.YtnbhdehpdfojlaaDoorRgLaid
import Derived.Test.YtnbhdehpdfojlaaDoorRgLives
namespace Go.Proofs.YtnbhdehpdfojlaaDoor.registerPiecesW
open Go.RowKit Go.Sort
/-- The entries that are made of numbers. -/
def mor (zs : List Nat) (v : Int) : List En := zs.map fun (z : Nat) => ent (1 + (z : Int)) v
theorem mor_len (zs : List Nat) (v : Int) : (mor zs v).length = zs.length := by simp [mor]
theorem mor_snoc {zs : List Nat} (v : Int) {k : Nat} (hk : k < zs.length) : mor (zs.take (k + 1)) v = mor (zs.take k) v ++ [ent (1 + (zs[k] : Int)) v] := by
  rw [List.take_succ_eq_append_getElem hk, mor, List.map_append]; rfl
theorem mor_ok {zs : List Nat} {v : Int} (hz : ∀ z ∈ zs, z < 256) : ∀ e ∈ mor zs v, e.ep = v ∧ e.o.may = true := by
  intro e he
  obtain ⟨z, hm, rfl⟩ := List.mem_map.1 he
  have := hz z hm
  refine ⟨rfl, ?_⟩
  show decide _ = true
  refine decide_eq_true ?_
  simp only [ent]
  omega
/-- What is known of one byte of a row. -/
theorem bys_at {w : World} {A : Option Addr} {n c : Nat} {zs : List Nat} (h : Bys w (.slice A n c) zs) {k : Nat} (hk : k < zs.length) : ∃ b o, A = some ⟨b, o, none⟩ ∧ b < w.heap.size ∧ w.cell? ⟨b, o + k, none⟩ = some (.int .u8 (zs[k] : Int)) ∧ zs[k] < 256 := by
  obtain ⟨A', c', hv, h1, h2, h3, h4⟩ := h
  injection hv with e1 e2 e3
  subst e1 e3
  obtain ⟨b, o, rfl, hb, hx⟩ := h4 (by omega)
  have hg : zs.getD k 0 = zs[k] := by simp [List.getD_eq_getElem?_getD, hk]
  have := hx k hk
  rw [hg] at this
  exact ⟨b, o, rfl, hb, this.1, this.2⟩
theorem bys_len {w : World} {A : Option Addr} {n c : Nat} {zs : List Nat} (h : Bys w (.slice A n c) zs) : n = zs.length ∧ zs.length ≤ c ∧ c ≤ maxLen ∧ ∀ z ∈ zs, z < 256 := by
  have h0 := h
  obtain ⟨A', c', hv, h1, h2, -⟩ := h
  injection hv with e1 e2 e3
  subst e1 e3
  refine ⟨e2, h1, h2, fun z hz => ?_⟩
  obtain ⟨k, hk, rfl⟩ := List.getElem_of_mem hz
  obtain ⟨_, _, _, _, _, h⟩ := bys_at h0 hk
  exact h
theorem Tryd.info_pair : (Tryd.prog.info? 49).map (fun i => (i.zero, i.size, i.bytes)) = some (some (.agg #[.int .i64 0, .int .i64 0]), 2, 16) := by kernel_rfl
theorem run_load_pair {W : World} {g o : Nat} {l : List Value} (hl8 : l.length = 2) (hc : ∀ j u, l[j]? = some u → W.cell? ⟨g, o + j, none⟩ = some u) : (loadVar 49 ⟨g, o, none⟩).run Tryd.prog W = .ok (.agg l.toArray) W := by
  have hl := run_loadCells_list (P := Tryd.prog) W ⟨g, o, none⟩ l (fun j u hu => by rw [Addr.add_lit]; exact hc j u hu)
  have hagg : (isAgg 49).run Tryd.prog W = .ok true W := by
    unfold isAgg
    rw [Sem.run_bind, run_underlying Tryd.underlying49 W]
    rfl
  obtain ⟨i0, hi, hz0, hz1, hz2⟩ := info_parts Tryd.info_pair
  rw [hl8] at hl
  simp [loadVar, Sem.run_bind, hagg, sizeOf, typeInfo, hi, hz1, hl]
/-- Where the pieces begin and end. -/
def pt (a d n : Nat) : Nat → Nat
  | 0 => 0
  | 1 => a
  | 2 => a + d
  | _ => n
theorem tri_load {X : World} {g a d n : Nat} {t : TypeId} (h : X.heap[g]? = some (.cells #[.int .i64 0, .int .i64 (a : Int), .int .i64 (a : Int), .int .i64 ((a : Int) + (d : Int)), .int .i64 ((a : Int) + (d : Int)), .int .i64 (n : Int)] t (0, 0))) {k : Nat} (hk : k < 3) :
    (loadVar 49 ⟨g, k * 2, none⟩).run Tryd.prog X = .ok (.agg #[.int .i64 (pt a d n k : Int), .int .i64 (pt a d n (k + 1) : Int)]) X := by
  refine run_load_pair (l := [.int .i64 (pt a d n k : Int), .int .i64 (pt a d n (k + 1) : Int)]) rfl fun j u hu => ?_
  have hj : j = 0 ∨ j = 1 := by
    have := (List.getElem?_eq_some_iff.1 hu).1
    simp at this
    omega
  have hk' : k = 0 ∨ k = 1 ∨ k = 2 := by omega
  rw [Lib.cell_of_heap h]
  rcases hk' with rfl | rfl | rfl <;> rcases hj with rfl | rfl <;> (simp [pt] at hu ⊢; exact hu)
theorem pt_le {a d n : Nat} (h1 : a + d ≤ n) {k : Nat} (hk : k < 3) : pt a d n k ≤ pt a d n (k + 1) ∧ pt a d n (k + 1) ≤ n := by
  have hk' : k = 0 ∨ k = 1 ∨ k = 2 := by omega
  rcases hk' with rfl | rfl | rfl <;> simp [pt] <;> omega
theorem wpList_load_known {ops : Array Oper} {rest : List Oper} {o : Oper} {a : Act} {w : World} {Q : Exit → Act → World → Prop} (hgd : o.guard = none) (ty : TypeId) (x : Operand) (ho : o.op = .load ty x)
    (ad : Addr) (v : Value) (hx : a.eval x = .pointer (some ad)) (hr : (loadVar ty ad).run Tryd.prog w = .ok v w) (h : wpList Tryd.prog ops Q rest (a.put o.dst v) w) : wpList Tryd.prog ops Q (o :: rest) a w :=
  wpList_plain hgd fun K hK => by
    unfold Oper.wp execOp
    simp only [ho, hx, Instr.loadAt, Instr.sureAddr, Sem.run_bind, Sem.run_pure, Result.andThen_ok, hr]
    exact hK _ _ h
theorem take_cut {α : Type} (l : List α) {lo hi : Nat} (h1 : lo ≤ hi) : l.take lo ++ (l.take hi).drop lo = l.take hi := by
  have : l.take lo = (l.take hi).take lo := by rw [List.take_take, Nat.min_eq_left h1]
  rw [this, List.take_append_drop]
theorem re_more {es cs : List En} {v m : Int} (h : (Re.mk v v es m).may = true) (hv : 1 ≤ v) (hc : ∀ e ∈ cs, e.ep = v ∧ e.o.may = true) (hl : es.length + cs.length ≤ 64) : (Re.mk v v (es ++ cs) m).may = true := by
  have h1 := (Re.may_iff _).1 h
  dsimp only at h1
  exact (Re.may_iff _).2 ⟨by dsimp only; omega, Int.le_refl _, by dsimp only; omega, logB_more h1.2.2.2.1 hv hc hl, h1.2.2.2.2.1, by dsimp only; rw [List.length_append]; omega⟩
theorem wrap_rem (a L : Nat) : (a : Int).tmod ((L : Int) + 1) = ((a % (L + 1) : Nat) : Int) := by
  rw [show ((L : Int) + 1) = ((L + 1 : Nat) : Int) by omega]
  exact (Int.ofNat_tmod a (L + 1)).symm
set_option maxRecDepth 100000 in
set_option maxHeartbeats 16000000 in
theorem walk (A : Option Addr) (c : Nat) (l : List RcE) (UA : Option Addr) (uc : Nat) (zs : List Nat) (ca cb : Nat) (w : World) (hA : Asked w) (h : RcsB w.heap.size w (.slice A l.length c) l) (hu : Bys w (.slice UA zs.length uc) zs) (hca : ca < 256) (hcb : cb < 256) :
    Calls Tryd.prog 8 #[.slice A l.length c, .slice UA zs.length uc, .agg #[.int .u8 (ca : Int), .int .u8 (cb : Int)]] w (fun e w' => e = .returned (.bool true) ∧ Below w.heap.size w w') := by
  have HLV := Lib.hid (fun X (hX : Below w.heap.size w X) => lives_any X (hA.keep hX))
  have HAK := Lib.hid (fun X (hX : Below w.heap.size w X) => hA.keep hX)
  obtain ⟨-, huc, hum, hz256⟩ := bys_len hu
  unfold maxLen at hum
  replace hz256 := Lib.hid hz256
  have HU := Lib.hid (fun k (hk : k < zs.length) => bys_at hu hk)
  obtain ⟨w1, HX1⟩ : ∃ W : World, Hid (W = w.alloc (.cells #[.int .u8 (ca : Int), .int .u8 (cb : Int)] 47)) := ⟨_, Lib.hid rfl⟩
  have hb1 : Below w.heap.size w w1 := by rw [HX1.out]; exact below_new _ _
  have hcut1 : w1.heap[w.heap.size]? = some (.cells #[.int .u8 (ca : Int), .int .u8 (cb : Int)] 47 (0, 0)) := by rw [HX1.out]; exact heap_alloc_new _ _
  have HBY := Lib.hid (beyond_any (h.keep hb1))
  cases hb : beyB l with
  | true =>
    rw [hb] at HBY
    clear hb h hA hu HU
    go_enter Tryd.func8, Tryd.ntmps8
    go_wp2_with (rw [← HX1.out])
    refine (HBY.out).mono ?_
    rintro e w2 ⟨rfl, hb2⟩
    have hB2 := keepB hb1 hb2
    go_wp2_with fail
    refine (HLV.out w2 hB2).mono ?_
    rintro e w3 ⟨rfl, hb3⟩
    go_wp2_with fail
    go_ret
    exact ⟨rfl, keepB hB2 hb3⟩
  | false =>
    rw [hb] at HBY
    obtain ⟨-, hl100⟩ := beyB_no hb
    by_cases h12 : 12 < zs.length
    · have t12 : decide ((12 : Int) < (zs.length : Int)) = true := decide_eq_true (by omega)
      have t12' : decide (12 < zs.length) = true := decide_eq_true h12
      clear hb h hA hu HU hl100 h12
      go_enter Tryd.func8, Tryd.ntmps8
      go_wp2_with (rw [← HX1.out])
      refine (HBY.out).mono ?_
      rintro e w2 ⟨rfl, hb2⟩
      have hB2 := keepB hb1 hb2
      go_wp2_with fail
      refine (HLV.out w2 hB2).mono ?_
      rintro e w3 ⟨rfl, hb3⟩
      go_wp2_with fail
      go_ret
      exact ⟨rfl, keepB hB2 hb3⟩
    have t12 : decide ((12 : Int) < (zs.length : Int)) = false := decide_eq_false (by omega)
    have t12' : decide (12 < zs.length) = false := decide_eq_false h12
    have HBH := Lib.hid (fun X (hX : Below w.heap.size w X) => bhd_any (h.keep hX) (hA.keep hX) hl100)
    have hmay := upR_may l l.length
    generalize upR l l.length = r at *
    obtain ⟨p, v, es, m⟩ := r
    have hmy := may_len hmay
    dsimp only at hmy
    have hl64 : es.length ≤ 64 := hmy.1
    have hl12 : zs.length ≤ 12 := by omega
    clear h hA hb hl100 hu
    go_enter Tryd.func8, Tryd.ntmps8
    go_wp2_with (rw [← HX1.out])
    refine (HBY.out).mono ?_
    rintro e w2 ⟨rfl, hb2⟩
    have hB2 := keepB hb1 hb2
    have hcut2 := keepH hb2 hcut1
    clear HBY hb1 hb2 hcut1 HX1
    go_wp2_with fail
    refine (HBH.out w2 hB2).mono ?_
    rintro e w3 ⟨A2, c2, rfl, hN3, hb3⟩
    dsimp only at hN3
    obtain ⟨g7, hg7⟩ : ∃ g, Hid (g = w3.heap.size) := ⟨_, Lib.hid rfl⟩
    obtain ⟨w4, HX4⟩ : ∃ W : World, Hid (W = w3.alloc (.cells #[.int .i64 p, .int .i64 v, .slice A2 es.length c2, .int .i64 m] 24)) := ⟨_, Lib.hid rfl⟩
    have hk4 : Below w3.heap.size w3 w4 := by rw [HX4.out]; exact below_new _ _
    have h7 : w4.heap[g7]? = some (.cells #[.int .i64 p, .int .i64 v, .slice A2 es.length c2, .int .i64 m] 24 (0, 0)) := by rw [HX4.out, hg7.out]; exact heap_alloc_new _ _
    have hE := keepE hk4 hN3
    have hB := keepB (keepB hB2 hb3) hk4
    have hcut4 := keepH hk4 (keepH hb3 hcut2)
    clear HBH hB2 hN3 hb3 hk4 hcut2 t12 t12'
    obtain ⟨n0, n1, n2, n3⟩ := box4 h7
    have LVE : ∀ X : World, Below w4.heap.size w4 X → Calls Tryd.prog 10 #[] X (NumPost (.bool true) X) := fun X hX => HLV.out X (keepB hB hX)
    replace LVE := Lib.hid LVE
    by_cases q1 : v < 1
    · have t1 : decide (v < 1) = true := decide_eq_true q1
      clear q1 hmay HU HAK hz256 hcut4 hE hmy h12
      go_wp2_with ((rw [← HX4.out]); try rw [← hg7.out])
      refine (LVE.out w4 (Below.refl _ _)).mono ?_
      rintro e w5 ⟨rfl, hb5⟩
      go_wp2_with fail
      go_ret
      exact ⟨rfl, keepB hB hb5⟩
    have t1 : decide (v < 1) = false := decide_eq_false q1
    by_cases q2 : ¬ v = p
    · have t2 : (v != p) = true := by simp [q2]
      clear q1 q2 hmay HU HAK hz256 hcut4 hE hmy h12
      go_wp2_with ((rw [← HX4.out]); try rw [← hg7.out])
      refine (LVE.out w4 (Below.refl _ _)).mono ?_
      rintro e w5 ⟨rfl, hb5⟩
      go_wp2_with fail
      go_ret
      exact ⟨rfl, keepB hB hb5⟩
    have hvp := Decidable.not_not.1 q2
    clear q2
    subst hvp
    have t2 : (v != v) = false := by simp
    have hs1 : (es.length : Int) + (zs.length : Int) ≤ 9223372036854775807 := by omega
    have hs0 : -9223372036854775808 ≤ (es.length : Int) + (zs.length : Int) := by omega
    have hsw : IntKind.i64.wrap ((es.length : Int) + (zs.length : Int)) = (es.length : Int) + (zs.length : Int) := IntWalk.i64_in _ ⟨by omega, by omega⟩
    by_cases q3 : 64 < es.length + zs.length
    · have t3' : decide ((64 : Int) < (es.length : Int) + (zs.length : Int)) = true := decide_eq_true (by omega)
      clear q1 q3 hmay HU HAK hz256 hcut4 hE hmy h12
      go_wp2_with ((rw [← HX4.out]); try rw [← hg7.out])
      refine (LVE.out w4 (Below.refl _ _)).mono ?_
      rintro e w5 ⟨rfl, hb5⟩
      go_wp2_with fail
      go_ret
      exact ⟨rfl, keepB hB hb5⟩
    have t3' : decide ((64 : Int) < (es.length : Int) + (zs.length : Int)) = false := decide_eq_false (by omega)
    go_wp2_with ((rw [← HX4.out]); try rw [← hg7.out])
    clear t1 t2 t3' hs1 hs0 hsw HX4 hg7 n0 n1 n2 n3
    go_loopw [8, 9] (fun r i wr => ∃ (k : Nat) (M : Option Addr) (mc : Nat), k ≤ zs.length ∧ r = .slice M k mc ∧ i = .int .i64 k ∧ Below w4.heap.size w4 wr ∧ OwnEs w4.heap.size wr (.slice M k mc) (mor (zs.take k) v)) (fun _ i _ => zs.length - (intOf i).toNat)
    case atStart => exact ⟨0, none, 0, Nat.zero_le _, rfl, rfl, Below.refl _ _, World.ownsRow_nil w4 w4.heap.size _ 6⟩
    case round =>
      obtain ⟨k, M, mc, hk, rfl, rfl, hBr, hO⟩ := hrel
      by_cases hlt : k < zs.length
      · obtain ⟨ub, uo, rfl, hub, hcu, hz⟩ := HU.out k hlt
        have hii : (k : Int) < (zs.length : Int) := by omega
        have hsn := Lib.hid (mor_snoc v hlt)
        have hlk : (mor (zs.take k) v).length = k := by rw [mor_len]; simp; omega
        have hlk1 : (mor (zs.take (k + 1)) v).length = k + 1 := by rw [mor_len]; simp; omega
        generalize zs[k] = z at *
        have hB4r := keepB hB hBr
        have hcr : wr.cell? ⟨ub, uo + k, none⟩ = some (.int .u8 (z : Int)) := (hB4r.cell (p := ⟨ub, uo + k, none⟩) hub).trans hcu
        have h7r := keepH hBr h7
        have hz1 : IntKind.i64.wrap (1 + (z : Int)) = 1 + (z : Int) := IntWalk.i64_in _ ⟨by omega, by omega⟩
        have hz0 : IntKind.i64.wrap (z : Int) = (z : Int) := IntWalk.i64_in _ ⟨by omega, by omega⟩
        have hub4 : ub < w4.heap.size := Nat.lt_of_lt_of_le hub hB.size
        have hwz := hBr.size
        have HS : Hid (∀ X : World, Below w4.heap.size wr X → X.cell? ⟨ub, uo + k, none⟩ = some (.int .u8 (z : Int)) ∧ X.cell? ⟨g7, 1, none⟩ = some (.int .i64 v)) := Lib.hid fun X hX => ⟨(hX.cell (p := ⟨ub, uo + k, none⟩) hub4).trans hcr, (hX.cell (p := ⟨g7, 1, none⟩) (lt_of_block h7)).trans (box4 h7r).2.1⟩
        have hO' : wr.ownsRow w4.heap.size 44 6 (.slice M k mc) k (ecs (mor (zs.take k) v)) := by have h := hO; unfold OwnEs at h; rwa [hlk] at h
        go_upto_region 10 with fail
        have hQ : Below w4.heap.size wr wr.drew := (Below.refl _ _).drew
        replace hO' : wr.drew.ownsRow w4.heap.size 44 6 (.slice M k mc) k (ecs (mor (zs.take k) v)) := hO'
        have hH := HS.out _ hQ
        clear hcu hcr h7r hB4r hO HU HLV LVE hcut4 hE HAK
        refine wp_region_held_drew (S := fun X => X.cell? ⟨ub, uo + k, none⟩ = some (.int .u8 (z : Int)) ∧ X.cell? ⟨g7, 1, none⟩ = some (.int .i64 v)) (by kernel_rfl) hH (fun hHeld => ?_)
        clear hH
        refine wpAnyH_take (i := 0) (v := ?_) rfl (by kernel_rfl) (by kernel_rfl) (by kernel_rfl) (fun _ _ _ h => h) (Or.inl ⟨by rfl, ?_⟩) (by assumption) ?_
        rotate_left
        · intro X hX
          go_simp
          try with_reducible rfl
        try simp only [List.getElem_toArray, List.getElem_cons_zero]
        try simp only [Act.put, List.setIfInBounds_toArray, List.set_cons_zero, List.set_cons_succ]
        refine wpAnyH_take (i := 1) (v := ?_) rfl (by kernel_rfl) (by kernel_rfl) (by kernel_rfl) (fun _ _ _ h => h) (Or.inl ⟨by rfl, ?_⟩) (by assumption) ?_
        rotate_left
        · intro X hX
          go_simp
          try with_reducible rfl
        try simp only [List.getElem_toArray, List.getElem_cons_succ, List.getElem_cons_zero]
        try simp only [Act.put, List.setIfInBounds_toArray, List.set_cons_zero, List.set_cons_succ]
        refine wpAnyH_take (i := 2) (v := ?_) rfl (by kernel_rfl) (by kernel_rfl) (by kernel_rfl) (fun _ _ _ h => h) (Or.inl ⟨by rfl, ?_⟩) (by assumption) ?_
        rotate_left
        · intro X hX
          go_simp
          try with_reducible rfl
        try simp only [List.getElem_toArray, List.getElem_cons_succ, List.getElem_cons_zero]
        try simp only [Act.put, List.setIfInBounds_toArray, List.set_cons_zero, List.set_cons_succ]
        refine wpAnyH_take (i := 3) (v := ?_) rfl (by kernel_rfl) (by kernel_rfl) (by kernel_rfl) (fun _ _ _ h => h) (Or.inl ⟨by rfl, ?_⟩) (by assumption) ?_
        rotate_left
        · intro X hX
          go_simp
          try with_reducible rfl
        try simp only [List.getElem_toArray, List.getElem_cons_succ, List.getElem_cons_zero]
        try simp only [Act.put, List.setIfInBounds_toArray, List.set_cons_zero, List.set_cons_succ]
        refine wpAnyH_take (i := 4) (v := .int .u8 (z : Int)) rfl (by kernel_rfl) (by kernel_rfl) (by kernel_rfl) (fun _ _ _ h => h) (Or.inl ⟨by rfl, ?_⟩) (by assumption) ?_
        · intro X hX
          obtain ⟨s0, s1⟩ := hX
          go_simp
        try simp only [List.getElem_toArray, List.getElem_cons_succ, List.getElem_cons_zero]
        try simp only [Act.put, List.setIfInBounds_toArray, List.set_cons_zero, List.set_cons_succ]
        refine wpAnyH_take (i := 5) (v := .int .i64 (z : Int)) rfl (by kernel_rfl) (by kernel_rfl) (by kernel_rfl) (fun _ _ _ h => h) (Or.inl ⟨by rfl, ?_⟩) (by assumption) ?_
        · intro X hX
          go_simp
        try simp only [List.getElem_toArray, List.getElem_cons_succ, List.getElem_cons_zero]
        try simp only [Act.put, List.setIfInBounds_toArray, List.set_cons_zero, List.set_cons_succ]
        refine wpAnyH_take (i := 6) (v := .int .i64 (1 + (z : Int))) rfl (by kernel_rfl) (by kernel_rfl) (by kernel_rfl) (fun _ _ _ h => h) (Or.inl ⟨by rfl, ?_⟩) (by assumption) ?_
        · intro X hX
          go_simp
        try simp only [List.getElem_toArray, List.getElem_cons_succ, List.getElem_cons_zero]
        try simp only [Act.put, List.setIfInBounds_toArray, List.set_cons_zero, List.set_cons_succ]
        refine wpAnyH_take (i := 7) (v := ?_) rfl (by kernel_rfl) (by kernel_rfl) (by kernel_rfl) (fun _ _ _ h => h) (Or.inl ⟨by rfl, ?_⟩) (by assumption) ?_
        rotate_left
        · intro X hX
          go_simp
          try with_reducible rfl
        try simp only [List.getElem_toArray, List.getElem_cons_succ, List.getElem_cons_zero]
        try simp only [Act.put, List.setIfInBounds_toArray, List.set_cons_zero, List.set_cons_succ]
        refine wpAnyH_take (i := 8) (v := .int .i64 v) rfl (by kernel_rfl) (by kernel_rfl) (by kernel_rfl) (fun _ _ _ h => h) (Or.inl ⟨by rfl, ?_⟩) (by assumption) ?_
        · intro X hX
          obtain ⟨s0, s1⟩ := hX
          go_simp
        try simp only [List.getElem_toArray, List.getElem_cons_succ, List.getElem_cons_zero]
        try simp only [Act.put, List.setIfInBounds_toArray, List.set_cons_zero, List.set_cons_succ]
        refine wpAnyH_ready (rs := [9]) (by kernel_rfl) (by simp) (AllReadyH.cons rfl (fun K hK => ?_) AllReadyH.nil)
        · go_simp
          refine (entry_any (1 + (z : Int)) v _).mono ?_
          rintro e wm ⟨rfl, hb⟩
          replace hO' := keepR hb hO'
          replace hQ := hQ.trans (hb.mono (Nat.le_trans hwz hQ.size))
          clear hb
          have hH := HS.out _ hQ
          go_wp2_with fail
          refine hK.out _ _ ?_ (fun hHeld => ?_)
          · with_reducible exact hH
          clear hK K hH
          try simp only [List.getElem_toArray, List.getElem_cons_succ, List.getElem_cons_zero]
          try simp only [Act.put, List.setIfInBounds_toArray, List.set_cons_zero, List.set_cons_succ]
          refine wpAnyH_ready (rs := [10]) (by kernel_rfl) (by simp) (AllReadyH.cons rfl (fun K hK => ?_) AllReadyH.nil)
          · refine step_build_new rfl 22 1 _ #[(0, .agg #[.int .i64 v, .int .i64 (1 + (z : Int)), .int .i64 0, .int .i64 (-1), .int .i64 2, .int .i64 1])] rfl (by simp [Act.eval]) #[.int .i64 v, .int .i64 (1 + (z : Int)), .int .i64 0, .int .i64 (-1), .int .i64 2, .int .i64 1] 44 (ent_build (1 + (z : Int)) v) ?_
            intro gC wn hC hgC hb
            replace hO' := keepR hb hO'
            replace hQ := hQ.trans (hb.mono (Nat.le_trans hwz hQ.size))
            clear hb hgC
            have hH := HS.out _ hQ
            refine hK.out _ _ ?_ (fun hHeld => ?_)
            · with_reducible exact hH
            clear hK K hH
            try simp only [List.getElem_toArray, List.getElem_cons_succ, List.getElem_cons_zero]
            try simp only [Act.put, List.setIfInBounds_toArray, List.set_cons_zero, List.set_cons_succ]
            refine wpAnyH_ready (rs := [11]) (by kernel_rfl) (by simp) (AllReadyH.cons rfl (fun K hK => ?_) AllReadyH.nil)
            · obtain ⟨M2, mc2, wm, hr, hO2, hgr, -⟩ := run_append_es hO' (ent_es (1 + (z : Int)) v hC) (Nat.le_trans hwz hQ.size) (by simp; omega)
              simp only [List.length_cons, List.length_nil, Nat.zero_add] at hr hO2
              refine step_app_known rfl _ _ 22 22 rfl (.slice M k mc) (.slice (some ⟨gC, 0, none⟩) 1 1) (by simp [Act.eval]) (by simp [Act.eval]) hr ?_
              have hV : Below w4.heap.size wr wm := hQ.trans (below_grow hgr (fun q h1 e => by have := (World.ownsRow.lt hO' _ e).1; omega) (Nat.le_trans hwz hQ.size))
              have hO3 : OwnEs w4.heap.size wm (.slice M2 (k + 1) mc2) (mor (zs.take (k + 1)) v) := by unfold OwnEs; rw [hlk1, hsn.out, ecs_append]; exact hO2
              replace hQ := hV
              clear hr hgr hO2 hC
              have hH := HS.out _ hQ
              refine hK.out _ _ ?_ (fun hHeld => ?_)
              · with_reducible exact hH
              clear hK K hH
              try simp only [List.getElem_toArray, List.getElem_cons_succ, List.getElem_cons_zero]
              try simp only [Act.put, List.setIfInBounds_toArray, List.set_cons_zero, List.set_cons_succ]
              refine wpAnyH_take (i := 12) (v := ?_) rfl (by kernel_rfl) (by kernel_rfl) (by kernel_rfl) (fun _ _ _ h => h) (Or.inl ⟨by rfl, ?_⟩) (by assumption) ?_
              rotate_left
              · intro X hX
                go_simp
                try with_reducible rfl
              try simp only [List.getElem_toArray, List.getElem_cons_succ, List.getElem_cons_zero]
              try simp only [Act.put, List.setIfInBounds_toArray, List.set_cons_zero, List.set_cons_succ]
              refine wpAnyH_done (by kernel_rfl) ?_ _
              go_wp2_with fail
              go_roundw
              case rel => exact ⟨k + 1, M2, mc2, by omega, rfl, by go_num, hBr.trans hV, hO3⟩
              case measure => simp [intOf]; omega
      · obtain rfl : k = zs.length := by omega
        have hii : ¬ (zs.length : Int) < (zs.length : Int) := by omega
        rw [List.take_length] at hO
        have hOk := mor_ok (v := v) hz256.out
        have hcl := mor_len zs v
        clear hz256 HU hlt hk
        generalize mor zs v = cs at *
        generalize zs.length = n at *
        subst hcl
        have hN : EsB wr.heap.size wr (.slice M cs.length mc) cs := own_es (by unfold OwnEs at hO; exact hO) (by omega)
        have h7r := keepH hBr h7
        have hEr := keepE hBr hE
        have hcr := keepH hBr hcut4
        have hBw := keepB hB hBr
        have hmc := (es_len hN).2
        unfold maxLen at hmc
        obtain ⟨a, hta, han⟩ : ∃ a : Nat, Hid ((ca : Int).tmod ((cs.length : Int) + 1) = (a : Int)) ∧ a ≤ cs.length := ⟨ca % (cs.length + 1), Lib.hid (wrap_rem ca cs.length), by have := Nat.mod_lt ca (show 0 < cs.length + 1 by omega); omega⟩
        obtain ⟨d, htd, hdn⟩ : ∃ d : Nat, Hid ((cb : Int).tmod ((cs.length : Int) - (a : Int) + 1) = (d : Int)) ∧ a + d ≤ cs.length := ⟨cb % (cs.length - a + 1), Lib.hid (by rw [← wrap_rem cb (cs.length - a)]; congr 1; omega), by have := Nat.mod_lt cb (show 0 < cs.length - a + 1 by omega); omega⟩
        have i1 : IntKind.i64.wrap (ca : Int) = (ca : Int) := IntWalk.i64_in _ ⟨by omega, by omega⟩
        have i2 : IntKind.i64.wrap (cb : Int) = (cb : Int) := IntWalk.i64_in _ ⟨by omega, by omega⟩
        have i3 : IntKind.i64.wrap ((cs.length : Int) + 1) = (cs.length : Int) + 1 := IntWalk.i64_in _ ⟨by omega, by omega⟩
        have i4 : IntKind.i64.wrap ((cs.length : Int) - (a : Int)) = (cs.length : Int) - (a : Int) := IntWalk.i64_in _ ⟨by omega, by omega⟩
        have i5 : IntKind.i64.wrap ((cs.length : Int) - (a : Int) + 1) = (cs.length : Int) - (a : Int) + 1 := IntWalk.i64_in _ ⟨by omega, by omega⟩
        have i6 : IntKind.i64.wrap ((a : Int) + (d : Int)) = (a : Int) + (d : Int) := IntWalk.i64_in _ ⟨by omega, by omega⟩
        have i7 : IntKind.i64.wrap ((a : Nat) : Int) = (a : Int) := IntWalk.i64_in _ ⟨by omega, by omega⟩
        have i8 : IntKind.i64.wrap ((d : Nat) : Int) = (d : Int) := IntWalk.i64_in _ ⟨by omega, by omega⟩
        have hta' := hta.out
        have htd' := htd.out
        have x0 : wr.cell? ⟨w.heap.size, 0, none⟩ = some (.int .u8 (ca : Int)) := by rw [Lib.cell_of_heap hcr]; rfl
        have x1 : wr.cell? ⟨w.heap.size, 1, none⟩ = some (.int .u8 (cb : Int)) := by rw [Lib.cell_of_heap hcr]; rfl
        obtain ⟨n0, n1, n2, n3⟩ := box4 h7r
        have hQW : appQ ⟨v, v, es, m⟩ ⟨2, v, 0, es.length, 0, cs⟩ = (⟨v, v, es ++ cs, m⟩, true) := app_more (r := ⟨v, v, es, m⟩) 0 0 hmay (by show 1 ≤ v; omega) rfl hOk (by dsimp only; omega)
        obtain ⟨fs, hfs⟩ : ∃ fs, Hid (es ++ cs = fs) := ⟨_, Lib.hid rfl⟩
        have hfl : Hid (fs.length = es.length + cs.length) := Lib.hid (by rw [← hfs.out]; simp)
        rw [hfs.out] at hQW
        have HAP : Hid (Calls Tryd.prog 11 #[.agg #[.int .i64 v, .int .i64 v, .slice A2 es.length c2, .int .i64 m], .agg #[.int .i64 2, .int .i64 0, .int .i64 v, .int .i64 0, .int .i64 es.length, .int .i64 0, .slice M cs.length mc, .slice none 0 0]] wr (BehPost (⟨v, v, fs, m⟩, true) wr)) := Lib.hid (by
          have h := apply_any v v m 2 0 v 0 es.length 0 es cs A2 M none c2 mc 0 0 wr hEr hN (HAK.out _ hBw) (by omega)
          rw [hQW] at h
          exact h)
        clear hO hB hcut4 hBr hE h7 hQW LVE
        go_wp2_with (first | (rw [hta.out]) | (rw [htd.out]))
        refine (HAP.out).mono ?_
        rintro e w5 ⟨A5, c5, rfl, hN5, hb5⟩
        dsimp only at hN5
        have h7s := keepH hb5 h7r
        have hNs := keepE hb5 hN
        have hEs := keepE hb5 hEr
        have hBs := keepB hBw hb5
        clear HAP n0 n1 n2 n3 x0 x1 hcr hEr hN hBw hb5 h7r hta htd hta' htd' i1 i2 i3 i4 i5 i6 i7 i8
        obtain ⟨g12, hg12⟩ : ∃ g, Hid (g = w5.heap.size) := ⟨_, Lib.hid rfl⟩
        obtain ⟨w6, HXw6⟩ : ∃ W : World, Hid (W = w5.alloc (.cells #[.int .i64 v, .int .i64 v, .slice A5 fs.length c5, .int .i64 m] 24)) := ⟨_, Lib.hid rfl⟩
        have hkw6 : Below w5.heap.size w5 w6 := by rw [HXw6.out]; exact below_new _ _
        have h12 : w6.heap[g12]? = some (.cells #[.int .i64 v, .int .i64 v, .slice A5 fs.length c5, .int .i64 m] 24 (0, 0)) := by rw [HXw6.out, hg12.out]; exact heap_alloc_new _ _
        have hzw6 : Hid (w6.heap.size = w5.heap.size + 1) := Lib.hid (by rw [HXw6.out]; simp)
        have heg12 : g12 = w5.heap.size := hg12.out
        replace heg12 := Lib.hid heg12
        have h76 := keepH hkw6 h7s
        obtain ⟨n0, n1, n2, n3⟩ := box4 h76
        obtain ⟨g14, hg14⟩ : ∃ g, Hid (g = w6.heap.size) := ⟨_, Lib.hid rfl⟩
        obtain ⟨w8, HXw8⟩ : ∃ W : World, Hid (W = w6.alloc (.cells #[.int .i64 v, .int .i64 v, .slice A2 es.length c2, .int .i64 m] 24)) := ⟨_, Lib.hid rfl⟩
        have hkw8 : Below w6.heap.size w6 w8 := by rw [HXw8.out]; exact below_new _ _
        have h14 : w8.heap[g14]? = some (.cells #[.int .i64 v, .int .i64 v, .slice A2 es.length c2, .int .i64 m] 24 (0, 0)) := by rw [HXw8.out, hg14.out]; exact heap_alloc_new _ _
        have hzw8 : Hid (w8.heap.size = w6.heap.size + 1) := Lib.hid (by rw [HXw8.out]; simp)
        have heg14 : g14 = w6.heap.size := hg14.out
        replace heg14 := Lib.hid heg14
        obtain ⟨g15, hg15⟩ : ∃ g, Hid (g = w8.heap.size) := ⟨_, Lib.hid rfl⟩
        obtain ⟨w9, HXw9⟩ : ∃ W : World, Hid (W = w8.alloc (.cells #[.int .i64 0, .int .i64 (a : Int), .int .i64 (a : Int), .int .i64 ((a : Int) + (d : Int)), .int .i64 ((a : Int) + (d : Int)), .int .i64 (cs.length : Int)] 49)) := ⟨_, Lib.hid rfl⟩
        have hkw9 : Below w8.heap.size w8 w9 := by rw [HXw9.out]; exact below_new _ _
        have h15 : w9.heap[g15]? = some (.cells #[.int .i64 0, .int .i64 (a : Int), .int .i64 (a : Int), .int .i64 ((a : Int) + (d : Int)), .int .i64 ((a : Int) + (d : Int)), .int .i64 (cs.length : Int)] 49 (0, 0)) := by rw [HXw9.out, hg15.out]; exact heap_alloc_new _ _
        have hzw9 : Hid (w9.heap.size = w8.heap.size + 1) := Lib.hid (by rw [HXw9.out]; simp)
        have heg15 : g15 = w8.heap.size := hg15.out
        replace heg15 := Lib.hid heg15
        
        go_wp2_with (first | ((rw [← HXw6.out]); try rw [← hg12.out]) | ((rw [← HXw8.out]); try rw [← hg14.out]) | ((rw [← HXw9.out]); try rw [← hg15.out]))
        have h7w := keepH hkw9 (keepH hkw8 h76)
        have h12w := keepH hkw9 (keepH hkw8 h12)
        have h14w := keepH hkw9 h14
        have hMw := keepE hkw9 (keepE hkw8 (keepE hkw6 hNs))
        have hFw := keepE hkw9 (keepE hkw8 (keepE hkw6 hN5))
        have hEw := keepE hkw9 (keepE hkw8 (keepE hkw6 hEs))
        have hBw := keepB (keepB (keepB hBs hkw6) hkw8) hkw9
        have hz7 := lt_of_block h7s
        have hzB := hBs.size
        have ne7 : g7 ≠ g14 := by have := heg14.out; have := hzw6.out; omega
        have ne12 : g12 ≠ g14 := by have := heg14.out; have := heg12.out; have := hzw6.out; omega
        have ne15 : g15 ≠ g14 := by have := heg14.out; have := heg15.out; have := hzw8.out; omega
        have hlw : w.heap.size ≤ g14 := by have := heg14.out; have := hzw6.out; omega
        have hcm : ∀ e ∈ cs, e.ep = v ∧ e.o.may = true := hOk
        replace hcm := Lib.hid hcm
        replace hmay := Lib.hid hmay
        clear hNs hN5 hEs hBs h76 h12 h14 h7s hkw6 hkw8 hkw9 HXw6 HXw8 HXw9 hg12 hg14 hg15 heg12 heg14 heg15 n0 n1 n2 n3 hOk hzw6 hzw8 hzw9
        go_loopw [109] (fun i wr => ∃ k : Nat, k ≤ 3 ∧ i = .int .i64 k ∧ Below w.heap.size w wr ∧ w9.heap.size ≤ wr.heap.size ∧ wr.heap[g7]? = some (.cells #[.int .i64 v, .int .i64 v, .slice A2 es.length c2, .int .i64 m] 24 (0, 0)) ∧ wr.heap[g12]? = some (.cells #[.int .i64 v, .int .i64 v, .slice A5 fs.length c5, .int .i64 m] 24 (0, 0)) ∧ wr.heap[g15]? = some (.cells #[.int .i64 0, .int .i64 (a : Int), .int .i64 (a : Int), .int .i64 ((a : Int) + (d : Int)), .int .i64 ((a : Int) + (d : Int)), .int .i64 (cs.length : Int)] 49 (0, 0)) ∧ EsB wr.heap.size wr (.slice M cs.length mc) cs ∧ EsB wr.heap.size wr (.slice A5 fs.length c5) fs ∧ RAt wr g14 ⟨v, v, es ++ cs.take (pt a d cs.length k), m⟩) (fun i _ => 3 - (intOf i).toNat)
        case atStart => exact ⟨0, by omega, rfl, hBw, Nat.le_refl _, h7w, h12w, h15, hMw, hFw, A2, c2, by simpa [pt] using h14w, by simpa [pt] using hEw⟩
        case round =>
          clear h7w h12w h14w h15 hMw hFw hEw hBw
          obtain ⟨k, hk, rfl, hBq, hzq, h7q, h12q, h15q, hMq, hFq, hRq⟩ := hrel
          by_cases hlt : k < 3
          · have hkk : (k : Int) < 3 := by omega
            have HLD := Lib.hid (tri_load h15q hlt)
            obtain ⟨hlo, hhi⟩ := pt_le hdn hlt
            have hpe := Lib.hid (show pt a d cs.length (k + 1) = pt a d cs.length (k + 1) from rfl)
            generalize pt a d cs.length k = lo at *
            obtain ⟨hi, hhe⟩ : ∃ hi, Hid (pt a d cs.length (k + 1) = hi) := ⟨_, Lib.hid rfl⟩
            rw [hhe.out] at HLD hlo hhi
            clear hpe
            obtain ⟨A6, c6, h14q, hEq⟩ := hRq
            dsimp only at h14q hEq
            have hap := app_more (r := ⟨v, v, es ++ cs.take lo, m⟩) (cs := (cs.take hi).drop lo) 0 0 (re_more hmay.out (by omega) (fun e he => hcm.out e (List.mem_of_mem_take he)) (by simp; omega)) (by show 1 ≤ v; omega) rfl (fun e he => hcm.out e (List.mem_of_mem_take (List.mem_of_mem_drop he))) (by simp; omega)
            dsimp only at hap
            rw [List.append_assoc, take_cut cs hlo] at hap
            have hpl : Hid ((es ++ cs.take lo).length = es.length + lo) := Lib.hid (by simp; omega)
            have hyl : ((cs.take hi).drop lo).length = hi - lo := by simp; omega
            obtain ⟨ps, hps⟩ : ∃ ps, Hid (es ++ cs.take lo = ps) := ⟨_, Lib.hid rfl⟩
            obtain ⟨ys, hys⟩ : ∃ ys, Hid ((cs.take hi).drop lo = ys) := ⟨_, Lib.hid rfl⟩
            obtain ⟨qs, hqs⟩ : ∃ qs, Hid (es ++ cs.take hi = qs) := ⟨_, Lib.hid rfl⟩
            have hYq := EsB.cut hMq hlo hhi
            rw [hps.out] at h14q hEq hap hpl
            rw [hys.out] at hap hyl hYq
            rw [hqs.out] at hap
            rw [← hyl] at hYq
            obtain ⟨Y, hY⟩ : ∃ Y, Hid ((if mc = lo then M else M.map fun x => x.add (lo * 6)) = Y) := ⟨_, Lib.hid rfl⟩
            rw [hY.out] at hYq
            have hql : Hid (qs.length = es.length + hi) := Lib.hid (by rw [← hqs.out]; simp; omega)
            replace hap := Lib.hid hap
            replace hyl := Lib.hid hyl
            obtain ⟨g16, hg16⟩ : ∃ g, Hid (g = wr.heap.size) := ⟨_, Lib.hid rfl⟩
            obtain ⟨wp, HXwp⟩ : ∃ W : World, Hid (W = wr.alloc (.cells #[.int .i64 (lo : Int), .int .i64 (hi : Int)] 49)) := ⟨_, Lib.hid rfl⟩
            have hkwp : Below wr.heap.size wr wp := by rw [HXwp.out]; exact below_new _ _
            have h16 : wp.heap[g16]? = some (.cells #[.int .i64 (lo : Int), .int .i64 (hi : Int)] 49 (0, 0)) := by rw [HXwp.out, hg16.out]; exact heap_alloc_new _ _
            have hzwp : Hid (wp.heap.size = wr.heap.size + 1) := Lib.hid (by rw [HXwp.out]; simp)
            have heg16 : g16 = wr.heap.size := hg16.out
            replace heg16 := Lib.hid heg16
            have h7p := keepH hkwp h7q
            have h14p := keepH hkwp h14q
            have hEp := keepE hkwp hEq
            have hYp := keepE hkwp hYq
            have hBp := keepB hBq hkwp
            have HAP : Hid (∀ X : World, Below wp.heap.size wp X → Calls Tryd.prog 11 #[.agg #[.int .i64 v, .int .i64 v, .slice A6 ps.length c6, .int .i64 m], .agg #[.int .i64 2, .int .i64 0, .int .i64 v, .int .i64 0, .int .i64 ps.length, .int .i64 0, .slice Y ys.length (mc - lo), .slice none 0 0]] X (BehPost (⟨v, v, qs, m⟩, true) X)) := Lib.hid fun X hX => by
              have h := apply_any v v m 2 0 v 0 ps.length 0 ps ys A6 Y none c6 (mc - lo) 0 0 X (keepE hX hEp) (keepE hX hYp) (HAK.out _ (keepB hBp hX)) (by have := hyl.out; omega)
              rw [hap.out] at h
              exact h
            have HS : Hid (∀ X : World, Below wp.heap.size wp X → X.cell? ⟨g14, 0, none⟩ = some (.int .i64 v) ∧ X.cell? ⟨g14, 1, none⟩ = some (.int .i64 v) ∧ X.cell? ⟨g14, 2, none⟩ = some (.slice A6 ps.length c6) ∧ X.cell? ⟨g14, 3, none⟩ = some (.int .i64 m) ∧ X.cell? ⟨g7, 1, none⟩ = some (.int .i64 v) ∧ X.cell? ⟨g16, 0, none⟩ = some (.int .i64 (lo : Int)) ∧ X.cell? ⟨g16, 1, none⟩ = some (.int .i64 (hi : Int))) := Lib.hid fun X hX => ⟨(box4 (keepH hX h14p)).1, (box4 (keepH hX h14p)).2.1, (box4 (keepH hX h14p)).2.2.1, (box4 (keepH hX h14p)).2.2.2, (box4 (keepH hX h7p)).2.1, by rw [Lib.cell_of_heap (keepH hX h16)]; rfl, by rw [Lib.cell_of_heap (keepH hX h16)]; rfl⟩
            have hla : (0 : Int) ≤ (lo : Int) ∧ (lo : Int) ≤ (hi : Int) ∧ (hi : Int) ≤ (mc : Int) := ⟨by omega, by omega, by omega⟩
            clear h7p hEp hYp hBp h14p
            go_upto_region 18 with (first | (with_reducible refine wpList_load_known (by rfl) 49 _ (by rfl) ⟨g15, k * 2, none⟩ _ (by simp [Act.eval]) HLD.out ?_) | ((rw [← HXwp.out]); try rw [← hg16.out]))
            
            go_cut [17, 18] (fun u f wx => ∃ g A c, u = .pointer (some ⟨g, 0, none⟩) ∧ f = .bool true ∧ wp.heap.size ≤ g ∧ Hid (wx.heap[g]? = some (.cells #[.int .i64 v, .int .i64 v, .slice A qs.length c, .int .i64 m] 24 (0, 0))) ∧ Hid (EsB wx.heap.size wx (.slice A qs.length c) qs) ∧ Hid (Below wp.heap.size wp wx))
            case first =>
              have hQ : Below wp.heap.size wp wp.drew := (Below.refl _ _).drew
              have hH := HS.out _ hQ
              clear HLD h7q h12q h15q hMq hFq hEq hYq h14q h16 hBq hkwp HXwp hg16
              refine wp_region_held_drew (S := fun X => X.cell? ⟨g14, 0, none⟩ = some (.int .i64 v) ∧ X.cell? ⟨g14, 1, none⟩ = some (.int .i64 v) ∧ X.cell? ⟨g14, 2, none⟩ = some (.slice A6 ps.length c6) ∧ X.cell? ⟨g14, 3, none⟩ = some (.int .i64 m) ∧ X.cell? ⟨g7, 1, none⟩ = some (.int .i64 v) ∧ X.cell? ⟨g16, 0, none⟩ = some (.int .i64 (lo : Int)) ∧ X.cell? ⟨g16, 1, none⟩ = some (.int .i64 (hi : Int))) (by kernel_rfl) hH (fun hHeld => ?_)
              clear hH
              refine wpAnyH_take (i := 0) (v := .agg #[.int .i64 v, .int .i64 v, .slice A6 ps.length c6, .int .i64 m]) rfl (by kernel_rfl) (by kernel_rfl) (by kernel_rfl) (fun _ _ _ h => h) (Or.inl ⟨by rfl, ?_⟩) (by assumption) ?_
              · intro X hX
                obtain ⟨a0, a1, a2, a3, a4, a5, a6⟩ := hX
                go_simp
              try simp only [List.getElem_toArray, List.getElem_cons_zero]
              try simp only [Act.put, List.setIfInBounds_toArray, List.set_cons_zero, List.set_cons_succ]
              refine wpAnyH_take (i := 1) (v := ?_) rfl (by kernel_rfl) (by kernel_rfl) (by kernel_rfl) (fun _ _ _ h => h) (Or.inl ⟨by rfl, ?_⟩) (by assumption) ?_
              rotate_left
              · intro X hX
                go_simp
                try with_reducible rfl
              try simp only [List.getElem_toArray, List.getElem_cons_succ, List.getElem_cons_zero]
              try simp only [Act.put, List.setIfInBounds_toArray, List.set_cons_zero, List.set_cons_succ]
              refine wpAnyH_take (i := 2) (v := .int .i64 v) rfl (by kernel_rfl) (by kernel_rfl) (by kernel_rfl) (fun _ _ _ h => h) (Or.inl ⟨by rfl, ?_⟩) (by assumption) ?_
              · intro X hX
                obtain ⟨a0, a1, a2, a3, a4, a5, a6⟩ := hX
                go_simp
              try simp only [List.getElem_toArray, List.getElem_cons_succ, List.getElem_cons_zero]
              try simp only [Act.put, List.setIfInBounds_toArray, List.set_cons_zero, List.set_cons_succ]
              refine wpAnyH_take (i := 3) (v := ?_) rfl (by kernel_rfl) (by kernel_rfl) (by kernel_rfl) (fun _ _ _ h => h) (Or.inl ⟨by rfl, ?_⟩) (by assumption) ?_
              rotate_left
              · intro X hX
                go_simp
                try with_reducible rfl
              try simp only [List.getElem_toArray, List.getElem_cons_succ, List.getElem_cons_zero]
              try simp only [Act.put, List.setIfInBounds_toArray, List.set_cons_zero, List.set_cons_succ]
              refine wpAnyH_take (i := 4) (v := .slice A6 ps.length c6) rfl (by kernel_rfl) (by kernel_rfl) (by kernel_rfl) (fun _ _ _ h => h) (Or.inl ⟨by rfl, ?_⟩) (by assumption) ?_
              · intro X hX
                obtain ⟨a0, a1, a2, a3, a4, a5, a6⟩ := hX
                go_simp
              try simp only [List.getElem_toArray, List.getElem_cons_succ, List.getElem_cons_zero]
              try simp only [Act.put, List.setIfInBounds_toArray, List.set_cons_zero, List.set_cons_succ]
              refine wpAnyH_take (i := 5) (v := ?_) rfl (by kernel_rfl) (by kernel_rfl) (by kernel_rfl) (fun _ _ _ h => h) (Or.inl ⟨by rfl, ?_⟩) (by assumption) ?_
              rotate_left
              · intro X hX
                go_simp
                try with_reducible rfl
              try simp only [List.getElem_toArray, List.getElem_cons_succ, List.getElem_cons_zero]
              try simp only [Act.put, List.setIfInBounds_toArray, List.set_cons_zero, List.set_cons_succ]
              refine wpAnyH_take (i := 6) (v := ?_) rfl (by kernel_rfl) (by kernel_rfl) (by kernel_rfl) (fun _ _ _ h => h) (Or.inl ⟨by rfl, ?_⟩) (by assumption) ?_
              rotate_left
              · intro X hX
                go_simp
                try with_reducible rfl
              try simp only [List.getElem_toArray, List.getElem_cons_succ, List.getElem_cons_zero]
              try simp only [Act.put, List.setIfInBounds_toArray, List.set_cons_zero, List.set_cons_succ]
              refine wpAnyH_take (i := 7) (v := ?_) rfl (by kernel_rfl) (by kernel_rfl) (by kernel_rfl) (fun _ _ _ h => h) (Or.inl ⟨by rfl, ?_⟩) (by assumption) ?_
              rotate_left
              · intro X hX
                go_simp
                try with_reducible rfl
              try simp only [List.getElem_toArray, List.getElem_cons_succ, List.getElem_cons_zero]
              try simp only [Act.put, List.setIfInBounds_toArray, List.set_cons_zero, List.set_cons_succ]
              refine wpAnyH_take (i := 8) (v := .int .i64 (lo : Int)) rfl (by kernel_rfl) (by kernel_rfl) (by kernel_rfl) (fun _ _ _ h => h) (Or.inl ⟨by rfl, ?_⟩) (by assumption) ?_
              · intro X hX
                obtain ⟨a0, a1, a2, a3, a4, a5, a6⟩ := hX
                go_simp
              try simp only [List.getElem_toArray, List.getElem_cons_succ, List.getElem_cons_zero]
              try simp only [Act.put, List.setIfInBounds_toArray, List.set_cons_zero, List.set_cons_succ]
              refine wpAnyH_take (i := 9) (v := ?_) rfl (by kernel_rfl) (by kernel_rfl) (by kernel_rfl) (fun _ _ _ h => h) (Or.inl ⟨by rfl, ?_⟩) (by assumption) ?_
              rotate_left
              · intro X hX
                go_simp
                try with_reducible rfl
              try simp only [List.getElem_toArray, List.getElem_cons_succ, List.getElem_cons_zero]
              try simp only [Act.put, List.setIfInBounds_toArray, List.set_cons_zero, List.set_cons_succ]
              refine wpAnyH_take (i := 10) (v := .int .i64 (hi : Int)) rfl (by kernel_rfl) (by kernel_rfl) (by kernel_rfl) (fun _ _ _ h => h) (Or.inl ⟨by rfl, ?_⟩) (by assumption) ?_
              · intro X hX
                obtain ⟨a0, a1, a2, a3, a4, a5, a6⟩ := hX
                go_simp
              try simp only [List.getElem_toArray, List.getElem_cons_succ, List.getElem_cons_zero]
              try simp only [Act.put, List.setIfInBounds_toArray, List.set_cons_zero, List.set_cons_succ]
              refine wpAnyH_take (i := 11) (v := .slice Y ys.length (mc - lo)) rfl (by kernel_rfl) (by kernel_rfl) (by kernel_rfl) (fun _ _ _ h => h) (Or.inl ⟨by rfl, ?_⟩) (by assumption) ?_
              · intro X hX
                go_simp
                exact ⟨hY.out, hyl.out.symm⟩
              try simp only [List.getElem_toArray, List.getElem_cons_succ, List.getElem_cons_zero]
              try simp only [Act.put, List.setIfInBounds_toArray, List.set_cons_zero, List.set_cons_succ]
              refine wpAnyH_take (i := 12) (v := ?_) rfl (by kernel_rfl) (by kernel_rfl) (by kernel_rfl) (fun _ _ _ h => h) (Or.inl ⟨by rfl, ?_⟩) (by assumption) ?_
              rotate_left
              · intro X hX
                go_simp
                try with_reducible rfl
              try simp only [List.getElem_toArray, List.getElem_cons_succ, List.getElem_cons_zero]
              try simp only [Act.put, List.setIfInBounds_toArray, List.set_cons_zero, List.set_cons_succ]
              refine wpAnyH_ready (rs := [13,17]) (by kernel_rfl) (by simp) (AllReadyH.cons rfl (fun K hK => ?_) (AllReadyH.cons rfl (fun K hK => ?_) AllReadyH.nil))
              · go_simp
                refine (HAP.out _ hQ).mono ?_
                rintro e wm ⟨A', c', rfl, hN, hb⟩
                replace hQ := keepB hQ hb
                clear hb
                have hH := HS.out _ hQ
                go_wp2_with fail
                refine hK.out _ _ ?_ (fun hHeld => ?_)
                · with_reducible exact hH
                clear hK K hH
                try simp only [List.getElem_toArray, List.getElem_cons_succ, List.getElem_cons_zero]
                try simp only [Act.put, List.setIfInBounds_toArray, List.set_cons_zero, List.set_cons_succ]
                refine wpAnyH_take (i := 14) (v := ?_) rfl (by kernel_rfl) (by kernel_rfl) (by kernel_rfl) (fun _ _ _ h => h) (Or.inl ⟨by rfl, ?_⟩) (by assumption) ?_
                rotate_left
                · intro X hX
                  go_simp
                  try with_reducible rfl
                try simp only [List.getElem_toArray, List.getElem_cons_succ, List.getElem_cons_zero]
                try simp only [Act.put, List.setIfInBounds_toArray, List.set_cons_zero, List.set_cons_succ]
                refine wpAnyH_take (i := 15) (v := ?_) rfl (by kernel_rfl) (by kernel_rfl) (by kernel_rfl) (fun _ _ _ h => h) (Or.inl ⟨by rfl, ?_⟩) (by assumption) ?_
                rotate_left
                · intro X hX
                  go_simp
                  try with_reducible rfl
                try simp only [List.getElem_toArray, List.getElem_cons_succ, List.getElem_cons_zero]
                try simp only [Act.put, List.setIfInBounds_toArray, List.set_cons_zero, List.set_cons_succ]
                refine wpAnyH_take (i := 16) (v := ?_) rfl (by kernel_rfl) (by kernel_rfl) (by kernel_rfl) (fun _ _ _ h => h) (Or.inl ⟨by rfl, ?_⟩) (by assumption) ?_
                rotate_left
                · intro X hX
                  go_simp
                  try with_reducible rfl
                try simp only [List.getElem_toArray, List.getElem_cons_succ, List.getElem_cons_zero]
                try simp only [Act.put, List.setIfInBounds_toArray, List.set_cons_zero, List.set_cons_succ]
                refine wpAnyH_ready (rs := [17]) (by kernel_rfl) (by simp) (AllReadyH.cons rfl (fun K hK => ?_) AllReadyH.nil)
                · refine step_alloc_new rfl 24 rfl #[.int .i64 0, .int .i64 0, .slice none 0 0, .int .i64 0] alloc_rg ?_
                  intro gF wn hF hgFb hb
                  replace hgFb : wp.heap.size ≤ gF := Nat.le_trans hQ.size hgFb
                  replace hQ := keepB hQ hb
                  replace hN := keepE hb hN
                  clear hb
                  have hH := HS.out _ hQ
                  refine hK.out _ _ ?_ (fun hHeld => ?_)
                  · with_reducible exact hH
                  clear hK K hH
                  try simp only [List.getElem_toArray, List.getElem_cons_succ, List.getElem_cons_zero]
                  try simp only [Act.put, List.setIfInBounds_toArray, List.set_cons_zero, List.set_cons_succ]
                  refine wpAnyH_ready (rs := [18]) (by kernel_rfl) (by simp) (AllReadyH.cons rfl (fun K hK => ?_) AllReadyH.nil)
                  · obtain ⟨wm, HST, hNew, hbl, hzz, hoth⟩ := rg_store (wp.heap.size) (v) (v) (A') (qs.length) (c') (m) hF rfl hgFb
                    refine step_store_known rfl 24 _ _ rfl ⟨gF, 0, none⟩ (.agg #[.int .i64 (v), .int .i64 (v), .slice (A') (qs.length) (c'), .int .i64 (m)]) (by simp [Act.eval]) (by simp [Act.eval]) HST.out ?_
                    replace hQ := hQ.trans hbl
                    replace hN := es_store hN hF (by simp) hoth hzz
                    replace hF := hNew
                    clear HST hNew hbl hzz hoth
                    have hH := HS.out _ hQ
                    refine hK.out _ _ ?_ (fun hHeld => ?_)
                    · with_reducible exact hH
                    clear hK K hH
                    try simp only [List.getElem_toArray, List.getElem_cons_succ, List.getElem_cons_zero]
                    try simp only [Act.put]
                    refine wpAnyH_take (i := 19) (v := ?_) rfl (by kernel_rfl) (by kernel_rfl) (by kernel_rfl) (fun _ _ _ h => h) (Or.inl ⟨by rfl, ?_⟩) (by assumption) ?_
                    rotate_left
                    · intro X hX
                      go_simp
                      try with_reducible rfl
                    try simp only [List.getElem_toArray, List.getElem_cons_succ, List.getElem_cons_zero]
                    try simp only [Act.put, List.setIfInBounds_toArray, List.set_cons_zero, List.set_cons_succ]
                    refine wpAnyH_done (by kernel_rfl) ?_ _
                    go_wp2_with fail
                    go_meet
                    case rel => exact ⟨gF, A', c', rfl, rfl, hgFb, Lib.hid hF, Lib.hid hN, Lib.hid hQ⟩
              · refine step_alloc_new rfl 24 rfl #[.int .i64 0, .int .i64 0, .slice none 0 0, .int .i64 0] alloc_rg ?_
                intro gF wn hF hgFb hb
                replace hgFb : wp.heap.size ≤ gF := Nat.le_trans hQ.size hgFb
                replace hQ := keepB hQ hb
                clear hb
                have hH := HS.out _ hQ
                refine hK.out _ _ ?_ (fun hHeld => ?_)
                · with_reducible exact hH
                clear hK K hH
                try simp only [List.getElem_toArray, List.getElem_cons_succ, List.getElem_cons_zero]
                try simp only [Act.put, List.setIfInBounds_toArray, List.set_cons_zero, List.set_cons_succ]
                refine wpAnyH_ready (rs := [13]) (by kernel_rfl) (by simp) (AllReadyH.cons rfl (fun K hK => ?_) AllReadyH.nil)
                · go_simp
                  refine (HAP.out _ hQ).mono ?_
                  rintro e wm ⟨A', c', rfl, hN, hb⟩
                  replace hQ := keepB hQ hb
                  replace hF := keepH hb hF
                  clear hb
                  have hH := HS.out _ hQ
                  go_wp2_with fail
                  refine hK.out _ _ ?_ (fun hHeld => ?_)
                  · with_reducible exact hH
                  clear hK K hH
                  try simp only [List.getElem_toArray, List.getElem_cons_succ, List.getElem_cons_zero]
                  try simp only [Act.put, List.setIfInBounds_toArray, List.set_cons_zero, List.set_cons_succ]
                  refine wpAnyH_take (i := 14) (v := ?_) rfl (by kernel_rfl) (by kernel_rfl) (by kernel_rfl) (fun _ _ _ h => h) (Or.inl ⟨by rfl, ?_⟩) (by assumption) ?_
                  rotate_left
                  · intro X hX
                    go_simp
                    try with_reducible rfl
                  try simp only [List.getElem_toArray, List.getElem_cons_succ, List.getElem_cons_zero]
                  try simp only [Act.put, List.setIfInBounds_toArray, List.set_cons_zero, List.set_cons_succ]
                  refine wpAnyH_take (i := 15) (v := ?_) rfl (by kernel_rfl) (by kernel_rfl) (by kernel_rfl) (fun _ _ _ h => h) (Or.inl ⟨by rfl, ?_⟩) (by assumption) ?_
                  rotate_left
                  · intro X hX
                    go_simp
                    try with_reducible rfl
                  try simp only [List.getElem_toArray, List.getElem_cons_succ, List.getElem_cons_zero]
                  try simp only [Act.put, List.setIfInBounds_toArray, List.set_cons_zero, List.set_cons_succ]
                  refine wpAnyH_take (i := 16) (v := ?_) rfl (by kernel_rfl) (by kernel_rfl) (by kernel_rfl) (fun _ _ _ h => h) (Or.inl ⟨by rfl, ?_⟩) (by assumption) ?_
                  rotate_left
                  · intro X hX
                    go_simp
                    try with_reducible rfl
                  try simp only [List.getElem_toArray, List.getElem_cons_succ, List.getElem_cons_zero]
                  try simp only [Act.put, List.setIfInBounds_toArray, List.set_cons_zero, List.set_cons_succ]
                  refine wpAnyH_ready (rs := [18]) (by kernel_rfl) (by simp) (AllReadyH.cons rfl (fun K hK => ?_) AllReadyH.nil)
                  · obtain ⟨wm, HST, hNew, hbl, hzz, hoth⟩ := rg_store (wp.heap.size) (v) (v) (A') (qs.length) (c') (m) hF rfl hgFb
                    refine step_store_known rfl 24 _ _ rfl ⟨gF, 0, none⟩ (.agg #[.int .i64 (v), .int .i64 (v), .slice (A') (qs.length) (c'), .int .i64 (m)]) (by simp [Act.eval]) (by simp [Act.eval]) HST.out ?_
                    replace hQ := hQ.trans hbl
                    replace hN := es_store hN hF (by simp) hoth hzz
                    replace hF := hNew
                    clear HST hNew hbl hzz hoth
                    have hH := HS.out _ hQ
                    refine hK.out _ _ ?_ (fun hHeld => ?_)
                    · with_reducible exact hH
                    clear hK K hH
                    try simp only [List.getElem_toArray, List.getElem_cons_succ, List.getElem_cons_zero]
                    try simp only [Act.put]
                    refine wpAnyH_take (i := 19) (v := ?_) rfl (by kernel_rfl) (by kernel_rfl) (by kernel_rfl) (fun _ _ _ h => h) (Or.inl ⟨by rfl, ?_⟩) (by assumption) ?_
                    rotate_left
                    · intro X hX
                      go_simp
                      try with_reducible rfl
                    try simp only [List.getElem_toArray, List.getElem_cons_succ, List.getElem_cons_zero]
                    try simp only [Act.put, List.setIfInBounds_toArray, List.set_cons_zero, List.set_cons_succ]
                    refine wpAnyH_done (by kernel_rfl) ?_ _
                    go_wp2_with fail
                    go_meet
                    case rel => exact ⟨gF, A', c', rfl, rfl, hgFb, Lib.hid hF, Lib.hid hN, Lib.hid hQ⟩
            case rest =>
            obtain ⟨gF, A7, c7, rfl, rfl, hgF, hF, hN, hk⟩ := hcut
            obtain ⟨wz, he⟩ : ∃ W, W = wc := ⟨_, rfl⟩
            subst he
            replace hk := hkwp.trans (hk.out.mono hkwp.size)
            replace hF := hF.out
            replace hN := hN.out
            have h7c := keepH hk h7q
            have h12c := keepH hk h12q
            have h14c := keepH hk h14q
            have h15c := keepH hk h15q
            have hMc := keepE hk hMq
            have hFc := keepE hk hFq
            have hBc := keepB hBq hk
            have hzc := hk.size
            obtain ⟨n0, n1, n2, n3⟩ := box4 hF
            obtain ⟨wy, HST, hNew, hbl, hzz, hoth⟩ := rg_store w.heap.size v v A7 qs.length c7 m h14c rfl hlw
            have h7y := (hoth _ ne7).trans h7c
            have h12y := (hoth _ ne12).trans h12c
            have h15y := (hoth _ ne15).trans h15c
            have hMy := es_store hMc h14c (by simp) hoth hzz
            have hFy := es_store hFc h14c (by simp) hoth hzz
            have hNy := es_store hN h14c (by simp) hoth hzz
            have hBy := hBc.trans hbl
            have hR : RAt wy g14 ⟨v, v, es ++ cs.take (pt a d cs.length (k + 1)), m⟩ := by rw [hhe.out, hqs.out]; exact ⟨A7, c7, hNew, hNy⟩
            have hzy : w9.heap.size ≤ wy.heap.size := by omega
            clear h7c h12c h14c h15c hMc hFc hN hBc hbl hzz hoth HAP HS HLD h7q h12q h14q h15q hMq hFq hEq hYq hBq hk hkwp hF h16 HXwp hg16 heg16
            go_wp2_with (with_reducible refine wpList_store_known (by rfl) 24 _ _ (by rfl) ⟨g14, 0, none⟩ _ (by simp [Act.eval]) (by simp [Act.eval]) HST.out ?_)
            go_roundw
            case rel => exact ⟨k + 1, by omega, by go_num, hBy, hzy, h7y, h12y, h15y, hMy, hFy, hR⟩
            case measure => simp [intOf]; omega
          · obtain rfl : k = 3 := by omega
            have hkk : ¬ ((3 : Nat) : Int) < 3 := by omega
            obtain ⟨A8, c8, h14q, hEq⟩ := hRq
            simp only [pt, List.take_length] at h14q hEq
            rw [hfs.out] at h14q hEq
            have HSR := sameReg_any v v m v v m wr hFq hEq
            rw [decide_eq_true rfl] at HSR
            replace HSR := Lib.hid HSR
            obtain ⟨n0, n1, n2, n3⟩ := box4 h12q
            obtain ⟨m0, m1, m2, m3⟩ := box4 h14q
            clear h14q hEq h12q h15q h7q hMq hFq HAK
            go_wp2_with fail
            refine (HSR.out).mono ?_
            rintro e w11 ⟨rfl, hb11⟩
            go_wp2_with fail
            refine (HLV.out w11 (keepB hBq hb11)).mono ?_
            rintro e w12 ⟨rfl, hb12⟩
            go_wp2_with fail
            go_ret
            exact ⟨rfl, keepB (keepB hBq hb11) hb12⟩
        end Go.Proofs.YtnbhdehpdfojlaaDoor.registerPiecesW
