/-
  mailOf of package mail: numbers that are a message's.
-/
import Derived.Test.YtkdnhfeamibmdaaDoorMlMofN
import Derived.Test.YtkdnhfeamibmdaaDoorKLast
import Derived.Test.YtkdnhfeamibmdaaDoorRcRlog
import Derived.BigRegion
import Derived.Deep.DeepCutAuto
namespace Go.Proofs.YtkdnhfeamibmdaaDoor
open Go.RowKit
set_option maxRecDepth 100000 in
set_option maxHeartbeats 8000000 in
theorem mailOf_ok {ns : List Int} {base : Nat} {A : Option Addr} {c : Nat} {w : World} (ho : OwnI w base (.slice A ns.length c) ns) {X : Nat} (hX64 : X ≤ 64) (hne : ns.length = 18 + 6 * X) (hx9 : numAt ns 9 = (X : Int)) :
    Calls Tryd.prog 52 #[.slice A ns.length c] w (MofPost ns w) := by
  obtain ⟨w0, HW0⟩ : ∃ w0, Hid (w.alloc (.cells (ml0.cells (.slice none 0 0)).toArray 45) = w0) := ⟨_, Lib.hid rfl⟩
  have hb0 : Below w.heap.size w w0 := by rw [← HW0.out]; exact (Below.refl _ _).alloc (Nat.le_refl _) _
  have X0 : MlBox w0 w.heap.size ml0 (.slice none 0 0) := by rw [← HW0.out]; exact MlBox.new _ _ _
  have hs0 : w0.heap.size = w.heap.size + 1 := by rw [← HW0.out]; simp
  have HB0 := Lib.hid hb0
  have HX0 := Lib.hid X0
  have HMF := Lib.hid (mofM_l hne hx9)
  have HHD : Hid ((mofM ns X).es = entsOf ns X) := rfl
  clear hb0 X0
  obtain ⟨_, _, hv, h1, h2, -⟩ := ho.is_slice
  injection hv with e1 _ e3
  subst e1 e3
  unfold maxLen at h2
  have HOC : Hid (0 < ns.length → ∃ g, A = some ⟨g, 0, none⟩ ∧ g < w.heap.size ∧ ∀ j, j < ns.length → w.cell? ⟨g, j, none⟩ = some (.int .i64 (numAt ns j))) := fun h => by
    obtain ⟨g, q1, _, q2, _, q3⟩ := ho.cells h
    exact ⟨g, q1, q2, fun j hj => by rw [q3 j hj, numAt_eq hj]⟩
  clear ho
  generalize ns.length = L at *
  simp only [ml0, Ml.cells, Od.none] at HW0
  have hii : ¬ (L : Int) < 18 := by omega
  have hii' : 18 ≤ (L : Int) := by omega
  obtain ⟨g, rfl, hgl, hcs⟩ := HOC.out (by omega)
  have HC := Lib.hid (fun X (hX : Below w.heap.size w X) j (hj : j < L) => show X.cell? ⟨g, j, none⟩ = some (.int .i64 (numAt ns j)) from (hX.cell (p := ⟨g, j, none⟩) hgl).trans (hcs j hj))
  clear HOC hcs
  have c9 := HC.out w0 HB0.out 9 (by omega)
  rw [hx9] at c9
  have i9 : (9 : Int) < (L : Int) := by omega
  have j9 : 9 < L := by omega
  have i10 : (10 : Int) ≤ (L : Int) := by omega
  have j10 : 10 ≤ L := by omega
  have k10 : 10 ≤ c := by omega
  have t1 : decide ((X : Int) < 0) = false := decide_eq_false (by omega)
  have t2 : decide (64 < (X : Int)) = false := decide_eq_false (by omega)
  have hX0 : 0 ≤ (X : Int) := by omega
  have hX64' : (X : Int) ≤ 64 := by omega
  have t : ((L : Int) == 18 + (X : Int) * 6) = true := by simp; omega
  have HL := Lib.hid hne
  clear hne hx9
  go_enter Tryd.func52, Tryd.ntmps52
  go_wp2_with (rw [HW0.out])
  go_quiet (fail)
  go_upto_region 6 with fail
  obtain ⟨w1, HW1⟩ : ∃ w1, Hid (w0.drewN nq = w1) := ⟨_, Lib.hid rfl⟩
  rw [HW1.out]
  have HB1 : Hid (Below w.heap.size w w1) := by show Below _ _ _; rw [← HW1.out]; exact below_drewN HB0.out _
  have HX1 : Hid (MlBox w1 w.heap.size ml0 (.slice none 0 0)) := by show MlBox _ _ _ _; rw [← HW1.out]; exact HX0.out
  have hs1 : w1.heap.size = w.heap.size + 1 := by rw [← HW1.out]; exact hs0
  clear HW0 HB0 HX0 hs0 c9 t t1 t2 HW1
  obtain ⟨M0, HM0⟩ : ∃ M0 : Ml, Hid (M0 = ⟨numAt ns 0, numAt ns 1, numAt ns 2, numAt ns 3, numAt ns 4, numAt ns 5, numAt ns 6, numAt ns 7, numAt ns 8, [], Od.none, 0, 0, 0⟩) := ⟨_, Lib.hid rfl⟩
  go_cut [6] (fun u wx => u = .pointer (some ⟨w1.heap.size, 0, none⟩) ∧ Hid (MlBox wx w1.heap.size M0 (.slice none 0 0)) ∧ Hid (Below w1.heap.size w1 wx) ∧ w1.heap.size < wx.heap.size)
  case first =>
    clear hs1
    obtain ⟨y0, HY0⟩ : ∃ y, Hid (numAt ns 0 = y) := ⟨_, Lib.hid rfl⟩
    have c0 := HC.out w1 HB1.out 0 (by omega)
    rw [HY0.out] at c0
    have j0 : 0 < L := by omega
    obtain ⟨y1, HY1⟩ : ∃ y, Hid (numAt ns 1 = y) := ⟨_, Lib.hid rfl⟩
    have c1 := HC.out w1 HB1.out 1 (by omega)
    rw [HY1.out] at c1
    have i1 : (1 : Int) < (L : Int) := by omega
    have j1 : 1 < L := by omega
    obtain ⟨y2, HY2⟩ : ∃ y, Hid (numAt ns 2 = y) := ⟨_, Lib.hid rfl⟩
    have c2 := HC.out w1 HB1.out 2 (by omega)
    rw [HY2.out] at c2
    have i2 : (2 : Int) < (L : Int) := by omega
    have j2 : 2 < L := by omega
    obtain ⟨y3, HY3⟩ : ∃ y, Hid (numAt ns 3 = y) := ⟨_, Lib.hid rfl⟩
    have c3 := HC.out w1 HB1.out 3 (by omega)
    rw [HY3.out] at c3
    have i3 : (3 : Int) < (L : Int) := by omega
    have j3 : 3 < L := by omega
    obtain ⟨y4, HY4⟩ : ∃ y, Hid (numAt ns 4 = y) := ⟨_, Lib.hid rfl⟩
    have c4 := HC.out w1 HB1.out 4 (by omega)
    rw [HY4.out] at c4
    have i4 : (4 : Int) < (L : Int) := by omega
    have j4 : 4 < L := by omega
    obtain ⟨y5, HY5⟩ : ∃ y, Hid (numAt ns 5 = y) := ⟨_, Lib.hid rfl⟩
    have c5 := HC.out w1 HB1.out 5 (by omega)
    rw [HY5.out] at c5
    have i5 : (5 : Int) < (L : Int) := by omega
    have j5 : 5 < L := by omega
    obtain ⟨y6, HY6⟩ : ∃ y, Hid (numAt ns 6 = y) := ⟨_, Lib.hid rfl⟩
    have c6 := HC.out w1 HB1.out 6 (by omega)
    rw [HY6.out] at c6
    have i6 : (6 : Int) < (L : Int) := by omega
    have j6 : 6 < L := by omega
    obtain ⟨y7, HY7⟩ : ∃ y, Hid (numAt ns 7 = y) := ⟨_, Lib.hid rfl⟩
    have c7 := HC.out w1 HB1.out 7 (by omega)
    rw [HY7.out] at c7
    have i7 : (7 : Int) < (L : Int) := by omega
    have j7 : 7 < L := by omega
    obtain ⟨y8, HY8⟩ : ∃ y, Hid (numAt ns 8 = y) := ⟨_, Lib.hid rfl⟩
    have c8 := HC.out w1 HB1.out 8 (by omega)
    rw [HY8.out] at c8
    have i8 : (8 : Int) < (L : Int) := by omega
    have j8 : 8 < L := by omega
    have m0 := World.new_ne w1.drew ⟨g, 0, none⟩ (u := .int .i64 y0) c0
    have m1 := World.new_ne w1.drew ⟨g, 1, none⟩ (u := .int .i64 y1) c1
    have m2 := World.new_ne w1.drew ⟨g, 2, none⟩ (u := .int .i64 y2) c2
    have m3 := World.new_ne w1.drew ⟨g, 3, none⟩ (u := .int .i64 y3) c3
    have m4 := World.new_ne w1.drew ⟨g, 4, none⟩ (u := .int .i64 y4) c4
    have m5 := World.new_ne w1.drew ⟨g, 5, none⟩ (u := .int .i64 y5) c5
    have m6 := World.new_ne w1.drew ⟨g, 6, none⟩ (u := .int .i64 y6) c6
    have m7 := World.new_ne w1.drew ⟨g, 7, none⟩ (u := .int .i64 y7) c7
    have m8 := World.new_ne w1.drew ⟨g, 8, none⟩ (u := .int .i64 y8) c8
    go_region_held3 (fun X => X.cell? ⟨g, 0, none⟩ = some (.int .i64 y0) ∧ X.cell? ⟨g, 1, none⟩ = some (.int .i64 y1) ∧ X.cell? ⟨g, 2, none⟩ = some (.int .i64 y2) ∧ X.cell? ⟨g, 3, none⟩ = some (.int .i64 y3) ∧ X.cell? ⟨g, 4, none⟩ = some (.int .i64 y4) ∧ X.cell? ⟨g, 5, none⟩ = some (.int .i64 y5) ∧ X.cell? ⟨g, 6, none⟩ = some (.int .i64 y6) ∧ X.cell? ⟨g, 7, none⟩ = some (.int .i64 y7) ∧ X.cell? ⟨g, 8, none⟩ = some (.int .i64 y8)) (go_keep) (fail)
    have HX2 : Hid (MlBox (w1.alloc (.cells #[.int .i64 y0, .int .i64 y1, .int .i64 y2, .int .i64 y3, .int .i64 y4, .int .i64 y5, .int .i64 y6, .int .i64 y7, .int .i64 y8, .slice none 0 0, .int .i64 0, .int .i64 0, .int .i64 0, .int .i64 0, .int .i64 0, .int .i64 0, .int .i64 0, .int .i64 0] 45 )).drew w1.heap.size M0 (.slice none 0 0)) := MlBox.of (heap_alloc_new w1 _) (by rw [HM0.out, HY0.out, HY1.out, HY2.out, HY3.out, HY4.out, HY5.out, HY6.out, HY7.out, HY8.out]; rfl)
    have HB2 : Hid (Below w1.heap.size w1 (w1.alloc (.cells #[.int .i64 y0, .int .i64 y1, .int .i64 y2, .int .i64 y3, .int .i64 y4, .int .i64 y5, .int .i64 y6, .int .i64 y7, .int .i64 y8, .slice none 0 0, .int .i64 0, .int .i64 0, .int .i64 0, .int .i64 0, .int .i64 0, .int .i64 0, .int .i64 0, .int .i64 0] 45 )).drew) := ((Below.refl _ _).alloc (Nat.le_refl _) _).drew
    go_wp2_with fail
    go_meet
    case rel => exact ⟨rfl, HX2, HB2, by simp⟩
  case rest =>
  obtain ⟨rfl, HX2, HB2, hs2⟩ := hcut
  have hw1 : w.heap.size < w1.heap.size := by omega
  clear i9 i10 hs1
  go_wp2_with fail
  go_loopw [5, 60] (fun u i wr => ∃ k : Nat, k ≤ X ∧ i = .int .i64 k ∧ u = .slice (some ⟨g, 10 + 6 * k, none⟩) (L - 10 - 6 * k) (c - 10 - 6 * k) ∧ Hid (∃ A' c', MlBox wr w1.heap.size M0 (.slice A' k c') ∧ OwnE wr w1.heap.size (.slice A' k c') (entsOf ns k)) ∧ Below w1.heap.size w1 wr) (fun _ i _ => X - (intOf i).toNat)
  case atStart => exact ⟨0, Nat.zero_le _, rfl, rfl, Lib.hid ⟨none, 0, HX2.out, World.ownsRow_nil _ _ _ _⟩, HB2.out⟩
  case round =>
    obtain ⟨k, hk, rfl, rfl, HR, hbel⟩ := hrel
    obtain ⟨A', c', hbx, hown⟩ := HR.out
    have HBE := Lib.hid hbel
    have HBX := Lib.hid hbx
    have HOW := Lib.hid hown
    have HBW := Lib.hid (HB1.out.trans (hbel.mono (by omega)))
    have hszr := hbel.size
    have hll := HL.out
    clear HR hbel HB2 HX2 hs2
    by_cases hlt : k < X
    · have hii : (k : Int) < (X : Int) := by omega
      obtain ⟨q, hq⟩ : ∃ q, 10 + 6 * k = q := ⟨_, rfl⟩
      obtain ⟨n', hn'⟩ : ∃ n', L - 10 - 6 * k = n' := ⟨_, rfl⟩
      obtain ⟨d', hd'⟩ : ∃ d', c - 10 - 6 * k = d' := ⟨_, rfl⟩
      have hn14 : 14 ≤ n' := by omega
      have hnd : n' ≤ d' := by omega
      have HQ := Lib.hid (show q + 6 = 10 + 6 * (k + 1) ∧ n' - 6 = L - 10 - 6 * (k + 1) ∧ d' - 6 = c - 10 - 6 * (k + 1) by omega)
      have HENT : Hid (entAt ns k = ⟨numAt ns q, ⟨numAt ns (q + 1), numAt ns (q + 2), numAt ns (q + 3), numAt ns (q + 4), numAt ns (q + 5)⟩⟩) := by show _ = _; rw [← hq]; rfl
      have e0 := HC.out wr HBW.out q (by omega)
      have hcc := fun j (hj : j < 6) => HC.out wr HBW.out (q + j) (by omega)
      rw [hq, hn', hd']
      clear hq hn' hd' hll
      obtain ⟨z0, hz0⟩ : ∃ z, numAt ns q = z := ⟨_, rfl⟩
      obtain ⟨z1, hz1⟩ : ∃ z, numAt ns (q + 1) = z := ⟨_, rfl⟩
      obtain ⟨z2, hz2⟩ : ∃ z, numAt ns (q + 2) = z := ⟨_, rfl⟩
      obtain ⟨z3, hz3⟩ : ∃ z, numAt ns (q + 3) = z := ⟨_, rfl⟩
      obtain ⟨z4, hz4⟩ : ∃ z, numAt ns (q + 4) = z := ⟨_, rfl⟩
      obtain ⟨z5, hz5⟩ : ∃ z, numAt ns (q + 5) = z := ⟨_, rfl⟩
      rw [hz0, hz1, hz2, hz3, hz4, hz5] at HENT
      rw [hz0] at e0
      have HGO := Lib.hid (fun (Y : World) (hY : Below wr.heap.size wr Y) => orderOf_any (w := Y) (g := g) (o := q + 1) (n := n' - 1) (c := d' - 1) z1 z2 z3 z4 z5 (by omega) (fun j x hj => by
        have hcy := fun j (hj : j < 6) => (hY.cell (p := ⟨g, q + j, none⟩) (Nat.lt_of_lt_of_le hgl HBW.out.size)).trans (hcc j hj)
        match j, hj with
        | 0, hj => obtain rfl : z1 = x := Option.some.inj hj; rw [← hz1]; exact hcy 1 (by omega)
        | 1, hj => obtain rfl : z2 = x := Option.some.inj hj; rw [← hz2, Nat.add_assoc]; exact hcy 2 (by omega)
        | 2, hj => obtain rfl : z3 = x := Option.some.inj hj; rw [← hz3, Nat.add_assoc]; exact hcy 3 (by omega)
        | 3, hj => obtain rfl : z4 = x := Option.some.inj hj; rw [← hz4, Nat.add_assoc]; exact hcy 4 (by omega)
        | 4, hj => obtain rfl : z5 = x := Option.some.inj hj; rw [← hz5, Nat.add_assoc]; exact hcy 5 (by omega)
        | j + 5, hj => simp at hj) (Nat.lt_of_lt_of_le hgl (Nat.le_trans HBW.out.size hY.size)))
      have hgw := Nat.lt_of_lt_of_le hgl HBW.out.size
      have HSX := Lib.hid (fun (Y : World) (h1 : MlBox Y w1.heap.size M0 (.slice A' k c')) (h2 : Y.cell? ⟨g, q, none⟩ = some (.int .i64 z0)) => (⟨h1.cell 9, h2⟩ : Y.cell? ⟨w1.heap.size, 9, none⟩ = some (.slice A' k c') ∧ Y.cell? ⟨g, q, none⟩ = some (.int .i64 z0)))
      have hmb := HBX.out.lt
      have hmg : g ≠ w1.heap.size := by have := HB1.out.size; omega
      have j1' : (1 : Int) ≤ (n' : Int) := by omega
      have j1n : 1 ≤ n' := by omega
      have j1d : 1 ≤ d' := by omega
      have j1e : ¬ d' = 1 := by omega
      have j6' : (6 : Int) ≤ (n' : Int) := by omega
      have j6n : 6 ≤ n' := by omega
      have j6d : 6 ≤ d' := by omega
      have j6e : ¬ d' = 6 := by omega
      have j0' : 0 < n' := by omega
      have j0i : (0 : Int) < (n' : Int) := by omega
      have hk6 : k ≤ 2000000 := by omega
      clear hcc hz0 hz1 hz2 hz3 hz4 hz5 hbx hown
      go_upto_region 9 with fail
      go_cut [] (fun wx => Hid (∃ A2 c2, MlBox wx w1.heap.size M0 (.slice A2 (k + 1) c2) ∧ OwnE wx w1.heap.size (.slice A2 (k + 1) c2) (entsOf ns (k + 1))) ∧ Hid (Below w1.heap.size w1 wx))
      case first =>
        refine wp_region_last (S := fun Y => Y.cell? ⟨w1.heap.size, 9, none⟩ = some (.slice A' k c') ∧ Y.cell? ⟨g, q, none⟩ = some (.int .i64 z0)) (by kernel_rfl) (HSX.out _ HBX.out e0) (fun hS0 => ?_)
        refine wpAnyL_take (i := 0) (k := 1) (v := ?_) rfl rfl (by decide) (by kernel_rfl) (by kernel_rfl) (by kernel_rfl) (by kernel_rfl) (by kernel_rfl) (by kernel_rfl) (fun _ _ _ h => h) (Or.inl ⟨by rfl, ?_⟩) (by assumption) ?_
        rotate_left
        · intro X hX
          go_simp
          try with_reducible rfl
        try simp only [Act.put, List.setIfInBounds_toArray, List.set_cons_zero, List.set_cons_succ, List.getElem_toArray, List.getElem_cons_zero]
        refine wpAnyL_take (i := 1) (k := 10) (v := ?_) rfl rfl (by decide) (by kernel_rfl) (by kernel_rfl) (by kernel_rfl) (by kernel_rfl) (by kernel_rfl) (by kernel_rfl) (fun _ _ _ h => h) (Or.inl ⟨by rfl, ?_⟩) (by assumption) ?_
        rotate_left
        · intro X hX
          go_simp
          try with_reducible rfl
        try simp only [Act.put, List.setIfInBounds_toArray, List.set_cons_zero, List.set_cons_succ, List.getElem_toArray, List.getElem_cons_succ, List.getElem_cons_zero]
        refine wpAnyL_take (i := 2) (k := 3) (v := ?_) rfl rfl (by decide) (by kernel_rfl) (by kernel_rfl) (by kernel_rfl) (by kernel_rfl) (by kernel_rfl) (by kernel_rfl) (fun _ _ _ h => h) (Or.inl ⟨by rfl, ?_⟩) (by assumption) ?_
        rotate_left
        · intro X hX
          go_simp
          try with_reducible rfl
        try simp only [Act.put, List.setIfInBounds_toArray, List.set_cons_zero, List.set_cons_succ, List.getElem_toArray, List.getElem_cons_succ, List.getElem_cons_zero]
        refine wpAnyL_take (i := 3) (k := 4) (v := ?_) rfl rfl (by decide) (by kernel_rfl) (by kernel_rfl) (by kernel_rfl) (by kernel_rfl) (by kernel_rfl) (by kernel_rfl) (fun _ _ _ h => h) (Or.inl ⟨by rfl, ?_⟩) (by assumption) ?_
        rotate_left
        · intro X hX
          go_simp
          try with_reducible rfl
        try simp only [Act.put, List.setIfInBounds_toArray, List.set_cons_zero, List.set_cons_succ, List.getElem_toArray, List.getElem_cons_succ, List.getElem_cons_zero]
        refine wpAnyL_take (i := 4) (k := 8) (v := ?_) rfl rfl (by decide) (by kernel_rfl) (by kernel_rfl) (by kernel_rfl) (by kernel_rfl) (by kernel_rfl) (by kernel_rfl) (fun _ _ _ h => h) (Or.inl ⟨by rfl, ?_⟩) (by assumption) ?_
        rotate_left
        · intro X hX
          go_simp
          try with_reducible rfl
        try simp only [Act.put, List.setIfInBounds_toArray, List.set_cons_zero, List.set_cons_succ, List.getElem_toArray, List.getElem_cons_succ, List.getElem_cons_zero]
        refine wpAnyL_take (i := 5) (k := 6) (v := ?_) rfl rfl (by decide) (by kernel_rfl) (by kernel_rfl) (by kernel_rfl) (by kernel_rfl) (by kernel_rfl) (by kernel_rfl) (fun _ _ _ h => h) (Or.inl ⟨by rfl, ?_⟩) (by assumption) ?_
        rotate_left
        · intro X hX
          go_simp
          try with_reducible rfl
        try simp only [Act.put, List.setIfInBounds_toArray, List.set_cons_zero, List.set_cons_succ, List.getElem_toArray, List.getElem_cons_succ, List.getElem_cons_zero]
        have HBD : Hid (Below wr.heap.size wr wr.drew) := (Below.refl _ _).drew
        refine wpAnyL_ready (rs := [6]) (by kernel_rfl) (by simp) (AllReadyL.cons rfl (fun K hK => ?_) AllReadyL.nil)
        go_simp
        refine hK.out _ _ ?_ (fun hHeld => ?_)
        · intro hlt0
          exact HSX.out _ HBX.out e0
        clear hK K
        replace hHeld := hHeld (by decide)
        try simp only [Act.put, List.setIfInBounds_toArray, List.set_cons_zero, List.set_cons_succ, List.getElem_toArray, List.getElem_cons_succ, List.getElem_cons_zero]
        refine wpAnyL_ready (rs := [7]) (by kernel_rfl) (by simp) (AllReadyL.cons rfl (fun K hK => ?_) AllReadyL.nil)
        go_simp
        refine (HGO.out _ HBD.out).mono ?_
        rintro e w3 ⟨rfl, hb3⟩
        have HB3 := Lib.hid (HBD.out.trans (hb3.mono HBD.out.size))
        have hsz3 := HB3.out.size
        have HX3 := Lib.hid (HBX.out.bel HB3.out hmb)
        have HE3 := Lib.hid ((HB3.out.cell (p := ⟨g, q, none⟩) hgw).trans e0)
        have HOW3 := Lib.hid (HOW.out.below HB3.out)
        have HB31 := Lib.hid (HBE.out.trans (HB3.out.mono hszr))
        clear hb3
        go_wp2_with fail
        refine hK.out _ _ ?_ (fun hHeld => ?_)
        · intro hlt0
          exact HSX.out _ HX3.out HE3.out
        clear hK K
        replace hHeld := hHeld (by decide)
        try simp only [Act.put, List.setIfInBounds_toArray, List.set_cons_zero, List.set_cons_succ, List.getElem_toArray, List.getElem_cons_succ, List.getElem_cons_zero]
        refine wpAnyL_take (i := 8) (k := 9) (v := ?_) rfl rfl (by decide) (by kernel_rfl) (by kernel_rfl) (by kernel_rfl) (by kernel_rfl) (by kernel_rfl) (by kernel_rfl) (fun _ _ _ h => h) (Or.inl ⟨by rfl, ?_⟩) (by assumption) ?_
        rotate_left
        · intro X hX
          go_simp
          try with_reducible rfl
        try simp only [Act.put, List.setIfInBounds_toArray, List.set_cons_zero, List.set_cons_succ, List.getElem_toArray, List.getElem_cons_succ, List.getElem_cons_zero]
        refine wpAnyL_ready (rs := [9]) (by kernel_rfl) (by simp) (AllReadyL.cons rfl (fun K hK => ?_) AllReadyL.nil)
        have HX4 : Hid (MlBox (w3.alloc (.cells #[.int .i64 z0, .int .i64 z1, .int .i64 z2, .int .i64 z3, .int .i64 z4, .int .i64 z5] 30)) w1.heap.size M0 (.slice A' k c')) := HX3.out.foot (Foot.new (fun _ => False) w3 _) (fun e => e)
        have HE4 : Hid ((w3.alloc (.cells #[.int .i64 z0, .int .i64 z1, .int .i64 z2, .int .i64 z3, .int .i64 z4, .int .i64 z5] 30)).cell? ⟨g, q, none⟩ = some (.int .i64 z0)) := ((Foot.new (fun _ => False) w3 _).cell (p := ⟨g, q, none⟩) (Nat.lt_of_lt_of_le hgw hsz3) (fun e => e)).trans HE3.out
        go_simp
        refine hK.out _ _ ?_ (fun hHeld => ?_)
        · intro hlt0
          exact HSX.out _ HX4.out HE4.out
        clear hK K
        replace hHeld := hHeld (by decide)
        try simp only [Act.put, List.setIfInBounds_toArray, List.set_cons_zero, List.set_cons_succ, List.getElem_toArray, List.getElem_cons_succ, List.getElem_cons_zero]
        refine wpAnyL_ready (rs := [10]) (by kernel_rfl) (by simp) (AllReadyL.cons rfl (fun K hK => ?_) AllReadyL.nil)
        have hok := HOW3.out
        unfold OwnE at hok
        rw [entsOf_len] at hok
        obtain ⟨A2, c2, w5, hr5, ho5, hg5⟩ := app_entry_big z0 z1 z2 z3 z4 z5 hok (by omega) hk6
        have HAP := Lib.hid hr5
        have HX5 := Lib.hid (HX4.out.foot (Foot.grown hg5) (HOW3.out.offm HX3.out))
        have e5 := ((Foot.grown hg5).cell (p := ⟨g, q, none⟩) (Nat.lt_of_lt_of_le hgw (Nat.le_trans hsz3 (Foot.new (fun _ => False) w3 (.cells #[.int .i64 z0, .int .i64 z1, .int .i64 z2, .int .i64 z3, .int .i64 z4, .int .i64 z5] 30)).size)) (fun e => by have : w1.heap.size ≤ g := (HOW3.out.lt e).1; omega)).trans HE4.out
        have hb5 : Below w1.heap.size w1 w5 := (HB31.out.alloc (by omega) (.cells #[.int .i64 z0, .int .i64 z1, .int .i64 z2, .int .i64 z3, .int .i64 z4, .int .i64 z5] 30)).grown hg5 (by simp; omega) (fun j hj => (HOW3.out.lt hj).1)
        have hof5 : ¬ (Value.slice A2 (k + 1) c2).ownBlock = some w1.heap.size := OwnE.offm (es := entsOf ns (k + 1)) (base := w1.heap.size) (by unfold OwnE; rw [entsOf_len, entsOf_succ, HENT.out]; simpa [En.l, Od.l, entsOf_len] using ho5) HX5.out
        have ho6 : OwnE w5 w1.heap.size (.slice A2 (k + 1) c2) (entsOf ns (k + 1)) := by unfold OwnE; rw [entsOf_len, entsOf_succ, HENT.out]; simpa [En.l, Od.l, entsOf_len] using ho5
        have HR6 : Hid (∃ A2' c2', MlBox (w5.setCell ⟨w1.heap.size, 9, none⟩ (.slice A2 (k + 1) c2)) w1.heap.size M0 (.slice A2' (k + 1) c2') ∧ OwnE (w5.setCell ⟨w1.heap.size, 9, none⟩ (.slice A2 (k + 1) c2)) w1.heap.size (.slice A2' (k + 1) c2') (entsOf ns (k + 1))) := ⟨A2, c2, HX5.out.set9 _, ho6.foot (Foot.set (fun j => j = w1.heap.size) _ _ _ rfl) (fun j hj e => hof5 (by rw [hj, e]))⟩
        have HB6 : Hid (Below w1.heap.size w1 (w5.setCell ⟨w1.heap.size, 9, none⟩ (.slice A2 (k + 1) c2))) := hb5.setCell (Nat.le_refl _) _
        have hf5 : w5.frozen? ⟨w1.heap.size, 9, none⟩ = false := Lib.frozen_of_heap HX5.out _
        have hc5 := HX5.out.cell 9
        simp only [Ml.cells, List.getElem?_cons_zero, List.getElem?_cons_succ] at hc5
        clear hr5 ho5 hg5 hb5 hof5 ho6 hok
        refine step_append_known rfl _ _ 22 22 rfl (.slice A' k c') (.slice (some ⟨w3.heap.size, 0, none⟩) 1 1) (by simp [Act.eval]) (by simp [Act.eval]) HAP.out ?_
        refine hK.out _ _ ?_ (fun hHeld => ?_)
        · intro hlt0
          exact HSX.out _ HX5.out e5
        clear hK K
        replace hHeld := hHeld (by decide)
        try simp only [Act.put, List.setIfInBounds_toArray, List.set_cons_zero, List.set_cons_succ, List.getElem_toArray, List.getElem_cons_succ, List.getElem_cons_zero]
        refine wpAnyL_take (i := 11) (k := 12) (v := ?_) rfl rfl (by decide) (by kernel_rfl) (by kernel_rfl) (by kernel_rfl) (by kernel_rfl) (by kernel_rfl) (by kernel_rfl) (fun _ _ _ h => h) (Or.inl ⟨by rfl, ?_⟩) (by assumption) ?_
        rotate_left
        · intro X hX
          go_simp
          try with_reducible rfl
        try simp only [Act.put, List.setIfInBounds_toArray, List.set_cons_zero, List.set_cons_succ, List.getElem_toArray, List.getElem_cons_succ, List.getElem_cons_zero]
        refine wpAnyL_ready (rs := [12]) (by kernel_rfl) (by simp) (AllReadyL.cons rfl (fun K hK => ?_) AllReadyL.nil)
        go_simp
        refine hK.out _ _ ?_ (fun hHeld => ?_)
        · intro hlt0
          exact absurd hlt0 (by decide)
        clear hK K
        try simp only [Act.put, List.setIfInBounds_toArray, List.set_cons_zero, List.set_cons_succ, List.getElem_toArray, List.getElem_cons_succ, List.getElem_cons_zero]
        refine wpAnyL_done (by kernel_rfl) ?_ _
        go_wp2_with fail
        go_meet
        case rel => exact ⟨HR6, HB6⟩
      case rest =>
        obtain ⟨HR9, HB9⟩ := hcut
        clear HGO HSX HBX HOW HBE HBW e0 HENT hgw hmb
        go_wp2_with fail
        go_roundw
        case rel => exact ⟨k + 1, by omega, by go_num, by rw [HQ.out.1, HQ.out.2.1, HQ.out.2.2], HR9, HB9.out⟩
        case measure => simp [intOf]; omega
    · obtain rfl : k = X := by omega
      obtain ⟨q, hq⟩ : ∃ q, 10 + 6 * k = q := ⟨_, rfl⟩
      obtain ⟨d', hd'⟩ : ∃ d', c - 10 - 6 * k = d' := ⟨_, rfl⟩
      have hn' : L - 10 - 6 * k = 8 := by omega
      have hd8 : 8 ≤ d' := by omega
      have hd5 : ¬ d' = 5 := by omega
      have hd5' : 5 ≤ d' := by omega
      have hcc := fun (Y : World) (hY : Below w1.heap.size w1 Y) j (hj : j < 8) => HC.out Y (HB1.out.trans (hY.mono (by omega))) (q + j) (by omega)
      have HML : Hid (({ ({ M0 with o := ⟨numAt ns (q + 0), numAt ns (q + 1), numAt ns (q + 2), numAt ns (q + 3), numAt ns (q + 4)⟩ } : Ml) with ai := numAt ns (q + 5), ac := numAt ns (q + 6), av := numAt ns (q + 7) } : Ml).cells = (mofM ns k).cells) := by show _ = _; rw [HM0.out, ← hq]; rfl
      rw [hq, hn', hd']
      clear hq hn' hd' hll
      obtain ⟨x0, hx0⟩ : ∃ z, numAt ns (q + 0) = z := ⟨_, rfl⟩
      obtain ⟨x1, hx1⟩ : ∃ z, numAt ns (q + 1) = z := ⟨_, rfl⟩
      obtain ⟨x2, hx2⟩ : ∃ z, numAt ns (q + 2) = z := ⟨_, rfl⟩
      obtain ⟨x3, hx3⟩ : ∃ z, numAt ns (q + 3) = z := ⟨_, rfl⟩
      obtain ⟨x4, hx4⟩ : ∃ z, numAt ns (q + 4) = z := ⟨_, rfl⟩
      obtain ⟨x5, hx5⟩ : ∃ z, numAt ns (q + 5) = z := ⟨_, rfl⟩
      obtain ⟨x6, hx6⟩ : ∃ z, numAt ns (q + 6) = z := ⟨_, rfl⟩
      obtain ⟨x7, hx7⟩ : ∃ z, numAt ns (q + 7) = z := ⟨_, rfl⟩
      rw [hx0, hx1, hx2, hx3, hx4, hx5, hx6, hx7] at HML
      have HCX := Lib.hid (fun (Y : World) (hY : Below w1.heap.size w1 Y) => (⟨hx5 ▸ hcc Y hY 5 (by omega), hx6 ▸ hcc Y hY 6 (by omega), hx7 ▸ hcc Y hY 7 (by omega)⟩ : Y.cell? ⟨g, q + 5, none⟩ = some (.int .i64 x5) ∧ Y.cell? ⟨g, q + 5 + 1, none⟩ = some (.int .i64 x6) ∧ Y.cell? ⟨g, q + 5 + 2, none⟩ = some (.int .i64 x7)))
      have G := Lib.hid (orderOf_any (w := wr.drew) (g := g) (o := q) (n := 8) (c := d') x0 x1 x2 x3 x4 (by omega) (fun j x hj => by
        match j, hj with
        | 0, hj => obtain rfl : x0 = x := Option.some.inj hj; rw [← hx0]; exact hcc wr HBE.out 0 (by omega)
        | 1, hj => obtain rfl : x1 = x := Option.some.inj hj; rw [← hx1]; exact hcc wr HBE.out 1 (by omega)
        | 2, hj => obtain rfl : x2 = x := Option.some.inj hj; rw [← hx2]; exact hcc wr HBE.out 2 (by omega)
        | 3, hj => obtain rfl : x3 = x := Option.some.inj hj; rw [← hx3]; exact hcc wr HBE.out 3 (by omega)
        | 4, hj => obtain rfl : x4 = x := Option.some.inj hj; rw [← hx4]; exact hcc wr HBE.out 4 (by omega)
        | j + 5, hj => simp at hj) (Nat.lt_of_lt_of_le hgl HBW.out.size))
      clear hx0 hx1 hx2 hx3 hx4 hx5 hx6 hx7 hcc hlt hbx hown HC
      have hmb := HBX.out.lt
      go_upto_region 12 with fail
      go_cut [5] (fun u wx => u = .slice (some ⟨g, q + 5, none⟩) 3 (d' - 5) ∧ Hid (MlBox wx w1.heap.size { M0 with o := ⟨x0, x1, x2, x3, x4⟩ } (.slice A' k c')) ∧ Hid (OwnE wx w1.heap.size (.slice A' k c') (entsOf ns k)) ∧ Hid (Below w1.heap.size w1 wx))
      case first =>
        go_region_held3 (fun _ => True) (trivial)
          (first | (go_at_call 76; (refine (G.out).mono ?_); rintro e w3 ⟨rfl, hb3⟩; have HB3 := Lib.hid hb3; have hz3 : w1.heap.size < w3.heap.size := (Nat.lt_of_lt_of_le hmb hb3.size); have HX3 := Lib.hid (HBX.out.bel (w' := w3) (w := wr) (n := wr.heap.size) ((Below.refl _ _).drew.trans hb3) hmb); have q10 := HX3.out.cell 10; have q11 := HX3.out.cell 11; have q12 := HX3.out.cell 12; have q13 := HX3.out.cell 13; have q14 := HX3.out.cell 14; have f10 : w3.frozen? ⟨w1.heap.size, 10, none⟩ = false := Lib.frozen_of_heap HX3.out _; have f11 : w3.frozen? ⟨w1.heap.size, 11, none⟩ = false := Lib.frozen_of_heap HX3.out _; have f12 : w3.frozen? ⟨w1.heap.size, 12, none⟩ = false := Lib.frozen_of_heap HX3.out _; have f13 : w3.frozen? ⟨w1.heap.size, 13, none⟩ = false := Lib.frozen_of_heap HX3.out _; have f14 : w3.frozen? ⟨w1.heap.size, 14, none⟩ = false := Lib.frozen_of_heap HX3.out _; simp only [Ml.cells, List.getElem?_cons_zero, List.getElem?_cons_succ] at q10 q11 q12 q13 q14))
        have hw3 : Below wr.heap.size wr w3 := (Below.refl _ _).drew.trans HB3.out
        obtain ⟨hm4, hf4⟩ := HX3.out.set_ord x0 x1 x2 x3 x4
        have ho3 := HOW.out.below hw3
        have ho4 := ho3.foot hf4 (fun j hj e => ho3.offm HX3.out (by rw [hj, e]))
        have hb4 := (HBE.out.trans (hw3.mono hszr)).trans (hf4.below (B := w1.heap.size) fun j hj => ⟨by omega, by omega⟩)
        have HM4 := Lib.hid hm4
        have HO4 := Lib.hid ho4
        have HB4 := Lib.hid hb4
        clear hm4 hf4 ho3 ho4 hb4
        go_wp2_with fail
        go_meet
        case rel => exact ⟨rfl, HM4, HO4, HB4⟩
      case rest =>
        obtain ⟨rfl, HX4, HO4, HB4⟩ := hcut
        obtain ⟨s0, s1, s2⟩ := HCX.out wc HB4.out
        obtain ⟨q5, hq5⟩ : ∃ q5, q + 5 = q5 := ⟨_, rfl⟩
        rw [hq5] at s0 s1 s2
        rw [hq5]
        clear hq5 G HCX HBX HOW HBE HBW hd8 hd5 hd5'
        have q15 := HX4.out.cell 15
        have q16 := HX4.out.cell 16
        have q17 := HX4.out.cell 17
        simp only [Ml.cells, List.getElem?_cons_zero, List.getElem?_cons_succ] at q15 q16 q17
        have f15 : wc.frozen? ⟨w1.heap.size, 15, none⟩ = false := Lib.frozen_of_heap HX4.out _
        have f16 : wc.frozen? ⟨w1.heap.size, 16, none⟩ = false := Lib.frozen_of_heap HX4.out _
        have f17 : wc.frozen? ⟨w1.heap.size, 17, none⟩ = false := Lib.frozen_of_heap HX4.out _
        have hmc := HX4.out.lt
        go_upto_region 13 with fail
        go_still_tail 11, (by kernel_rfl)
        go_upto_region 14 with fail
        obtain ⟨hm5, hf5⟩ := HX4.out.set_ans x5 x6 x7
        obtain ⟨w5, HW5⟩ : ∃ w5, Hid ((((wc.setCell ⟨w1.heap.size, 15, none⟩ (.int .i64 x5)).setCell ⟨w1.heap.size, 16, none⟩ (.int .i64 x6)).setCell ⟨w1.heap.size, 17, none⟩ (.int .i64 x7)).drew = w5) := ⟨_, Lib.hid rfl⟩
        rw [HW5.out]
        have hx5 : MlBox w5 w1.heap.size (mofM ns k) (.slice A' k c') := by rw [← HW5.out]; unfold MlBox; rw [← HML.out]; exact hm5
        have hf6 : Foot (fun j => j = w1.heap.size) wc w5 := by rw [← HW5.out]; exact hf5.trans (Foot.drew _ _) (fun _ _ h => h)
        have ho5 := HO4.out.foot hf6 (fun j hj e => HO4.out.offm HX4.out (by rw [hj, e]))
        have hb5 := HB4.out.trans (hf6.below (B := w1.heap.size) fun j hj => ⟨by omega, by omega⟩)
        have hx1 := HX1.out.bel hb5 hw1
        have HST := Lib.hid (hx1.store (m := mofM ns k) (A := A') (n := k) (c := c'))
        have hl5 := hx5.load
        have HOF : Hid (OwnE (w5.setRow w.heap.size ((mofM ns k).cells (.slice A' k c')).toArray) w.heap.size (.slice A' k c') (entsOf ns k)) := owns_weaken (ho5.foot (Foot.row (fun j => j = w.heap.size) _ _ _ rfl) (fun j hj e => by have := (ho5.lt hj).1; omega)) (by omega)
        have HBF : Hid (Below w.heap.size w (w5.setRow w.heap.size ((mofM ns k).cells (.slice A' k c')).toArray)) := below_setRow (HB1.out.trans (hb5.mono (by omega))) (Nat.le_refl _) _
        have HEL : Hid ((mofM ns k).es.length = k) := entsOf_len _ _
        simp only [Ml.v] at hl5
        clear hm5 hf5 hx5 hf6 ho5 hb5 hx1 q15 q16 q17 f15 f16 f17 s0 s1 s2 HW5 HM0
        go_wp2_with (first | (refine wpList_load_run rfl 45 _ rfl ⟨w1.heap.size, 0, none⟩ rfl hl5 ?_) | (refine wpList_store_known rfl 45 _ _ rfl ⟨w.heap.size, 0, none⟩ _ rfl rfl HST.out.1 ?_))
        (try simp only [Exit.inBlock, Exit.then]); refine bodyPost_ret (v := .tuple #[.agg ((mofM ns k).cells (.slice A' k c')).toArray, .bool true]) (by rw [results_row_one (u := 3) rfl _ _ w.heap.size 45 ((mofM ns k).cells (.slice A' k c')).toArray (0, 0) _ rfl HST.out.2 Tryd.underlying45 rfl (by kernel_rfl)]; rfl) rfl ?_
        exact ⟨HBF.out, .inl ⟨mofM ns k, A', c', HMF.out, by rw [HEL.out]; exact hX64, by rw [HEL.out]; rfl, by rw [HEL.out]; exact HOF.out⟩⟩
theorem mailOf_any {ns : List Int} {base : Nat} {A : Option Addr} {c : Nat} {w : World} (ho : OwnI w base (.slice A ns.length c) ns) :
    Calls Tryd.prog 52 #[.slice A ns.length c] w (MofPost ns w) := by
  by_cases h : ∃ X : Nat, X ≤ 64 ∧ ns.length = 18 + 6 * X ∧ numAt ns 9 = (X : Int)
  · obtain ⟨X, h1, h2, h3⟩ := h
    exact mailOf_ok ho h1 h2 h3
  · exact mailOf_no ho h
end Go.Proofs.YtkdnhfeamibmdaaDoor
