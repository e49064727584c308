/-
  Contract of Truncate: the closure, and the call.
-/
import Derived.Test.YtceldekbkffhpaaDSync
namespace Go.Proofs.Ytceldekbkffhpaa
open Go.RowKit
section
variable {w w' : World} {d : Nat} {D : Dsk.Dk} {S T : Nat → Prop} {v : Value} {fs : List MF} {left : Int} {fv : Value}
theorem set_comm (w : World) (g i j : Nat) (u v : Value) (h : i ≠ j) : (w.setCell ⟨g, i, none⟩ u).setCell ⟨g, j, none⟩ v = (w.setCell ⟨g, j, none⟩ v).setCell ⟨g, i, none⟩ u := by
  unfold World.setCell
  congr 1
  apply Array.ext_getElem?
  intro k
  simp only [Array.getElem?_modify]
  split
  · rcases w.heap[k]? with _ | o
    · rfl
    · cases o <;> simp [Array.setIfInBounds_comm _ _ h]
  · rfl
def truncWhat (D : Dsk.Dk) (n : Int) (i : Nat) : Dsk.Dk × Int := if n < 0 ∨ (Dsk.lenAt D.fs i : Int) < n then (D, 2) else Dsk.change D fun fs => fs.modify i (Dsk.truncF n.toNat)
theorem DiskAt.lenAt (h : DiskAt w d D S T v fs left fv) {i : Nat} (hi : i < fs.length) : Dsk.lenAt D.fs i = fs[i].fl.data.length := by
  unfold Dsk.lenAt; rw [h.at_ hi]; rfl
theorem trunc_data (l : List UInt8) (m : Nat) : (l.take m).map byteV = (l.map byteV).take (m * 1) := by rw [Nat.mul_one, List.map_take]
set_option maxRecDepth 100000 in
set_option maxHeartbeats 1000000 in
theorem trunc_cl {i g c bn bd : Nat} {n : Int} (h : DiskAt w d D S T (.slice (some ⟨g, 0, none⟩) fs.length c) fs left fv) (hi : i < fs.length) (hbn : w.cell? ⟨bn, 0, none⟩ = some (.int .i64 n)) (hbd : w.cell? ⟨bd, 0, none⟩ = some (.pointer (some ⟨d, 0, none⟩)))
    (hnn : bn ≠ d ∧ bn ≠ g ∧ bn < w.heap.size) :
    Calls Try.prog 57 #[.pointer (some ⟨g, i * 3, none⟩), .pointer (some ⟨bn, 0, none⟩), .pointer (some ⟨bd, 0, none⟩)] w (AnyRet (Did w d S (truncWhat D n i))) := by
  have hD : IsDisk w d D S := ⟨T, _, fs, left, fv, h⟩
  have HP := Lib.hid (fun m => pass_at (w := w.drewN m) (h.below (by exact ⟨rfl, rfl, rfl, Nat.le_refl _, fun _ _ => rfl⟩)))
  have hla := h.lenAt hi
  have HH := Lib.hid h
  obtain ⟨A, bc, hbv, q1, q2, q3, q4, q5, b1, b2, b3, bz⟩ := h.file hi
  have HBV := Lib.hid hbv
  have HA5 := Lib.hid q5
  have HL := Lib.hid hla
  clear h hbv q5 b1 b3 bz hla
  unfold maxLen at q2
  by_cases h0 : n < 0
  · have t1 : decide (n < 0) = true := decide_eq_true h0
    have HW : Hid (truncWhat D n i = (D, 2)) := if_pos (.inl h0)
    go_enter Try.func57, Try.ntmps57
    go_wp2_with fail
    go_quiet (fail)
    go_wp2_with fail
    go_ret
    exact ⟨2, rfl, by rw [HW.out]; exact Did.same hD 2 ⟨rfl, rfl, rfl, Nat.le_refl _, fun _ _ => rfl⟩⟩
  have t1 : decide (n < 0) = false := decide_eq_false h0
  by_cases h2 : (fs[i].fl.data.length : Int) < n
  · have HW : Hid (truncWhat D n i = (D, 2)) := if_pos (.inr (by rw [HL.out]; exact h2))
    have t2 : decide ((fs[i].fl.data.length : Int) < n) = true := decide_eq_true h2
    go_enter Try.func57, Try.ntmps57
    go_wp2_with fail
    go_quiet (fail)
    go_wp2_with fail
    go_ret
    exact ⟨2, rfl, by rw [HW.out]; exact Did.same hD 2 ⟨rfl, rfl, rfl, Nat.le_refl _, fun _ _ => rfl⟩⟩
  have t2 : decide ((fs[i].fl.data.length : Int) < n) = false := decide_eq_false h2
  have HW : Hid (truncWhat D n i = Dsk.change D fun fs => fs.modify i (Dsk.truncF n.toNat)) := if_neg (by rw [HL.out]; omega)
  obtain ⟨m, rfl⟩ := Int.eq_ofNat_of_zero_le (show 0 ≤ n by omega)
  have hml : m ≤ fs[i].fl.data.length := by omega
  go_enter Try.func57, Try.ntmps57
  go_wp2_with fail
  go_quiet (fail)
  go_wp2_with fail
  refine (HP.out _).mono ?_
  rintro e w1 (⟨hp, rfl, left', h1, hf1⟩ | ⟨hp, rfl, h1, hf1⟩)
  · have hbn1 := (hf1.cell (p := ⟨bn, 0, none⟩) hnn.2.2 hnn.1).trans hbn
    clear b2 q1 q2 q3 q4 HBV HA5 t2
    obtain ⟨A', bc', hbv, q1, q2, q3, q4, q5, b1, b2, b3, bz⟩ := h1.file hi
    have z1 := bz (i * 3 + 1)
    have z2 := bz (i * 3 + 2)
    have HBV := Lib.hid hbv
    have H1 := Lib.hid h1
    have HF := Lib.hid hf1
    have HPZ := Lib.hid hp
    unfold maxLen at q2
    have HQ5 := Lib.hid q5
    clear hp h1 hf1 hbv q5 b1 bz hbn hbd
    obtain ⟨L, hL⟩ : ∃ L, L = fs[i].fl.data.length := ⟨_, rfl⟩
    obtain ⟨sr, hsr⟩ : ∃ sr, sr = fs[i].fl.sure := ⟨_, rfl⟩
    rw [← hL] at b2 q1 q3 q4 hml HBV h2
    rw [← hsr] at b3 q4
    have HLL := Lib.hid hL
    have HSR := Lib.hid hsr
    clear hL hsr
    go_wp2_with fail
    refine wp_region_tail_drawn 9 (by kernel_rfl) (by kernel_rfl) ?_
    simp only [List.take_succ_cons, List.take_zero, List.drop_succ_cons, List.drop_zero]
    repeat (go_big_quiet_step (fail))
    refine wpQuiet_nil ?_
    intro _ hw'
    obtain ⟨mq, hw''⟩ := hw'
    subst hw''
    go_wp2_with fail
    refine wp_region_tail_drawn 9 (by kernel_rfl) (by kernel_rfl) ?_
    simp only [List.take_succ_cons, List.take_zero, List.drop_succ_cons, List.drop_zero]
    repeat (go_big_quiet_step (fail))
    refine wpQuiet_nil ?_
    intro _ hw'
    obtain ⟨mr, hw''⟩ := hw'
    subst hw''
    go_wp2_with fail
    go_ret
    refine ⟨0, rfl, ?_⟩
    rw [HW.out, change_ok HPZ.out]
    have hgood := keep_le D i (g := Dsk.truncF m) HH.out.good (fun _ => rfl) (fun f => by show (List.take _ _).length ≤ _; rw [List.length_take]; omega) (fun f hf => by
      show min f.sure m ≤ (List.take m f.data).length
      have := HH.out.good.sure f hf
      rw [List.length_take]; omega)
    have hby := H1.out.files.bytes fs[i] (List.getElem_mem hi)
    unfold Bytes at hby
    rw [HBV.out, ← HLL.out] at hby
    have htk := owns_take hby hml
    have hdid := H1.out.cells hi ⟨Dsk.truncF m fs[i].fl, .slice A' m bc'⟩ rfl (Foot.refl _ _) (by
        show w1.ownsRow 0 _ 1 (.slice A' m bc') (List.take m fs[i].fl.data).length ((List.take m fs[i].fl.data).map byteV)
        rw [trunc_data, List.length_take, Nat.min_eq_left (by rw [← HLL.out]; exact hml)]
        exact htk) (fun k e => .inl (by rw [HBV.out, ← cutV_block _ m]; exact e)) (eqv_foot (S := fun _ => False) (w' := (((w1.setCell ⟨g, i * 3 + 1, none⟩ (.slice A' m bc')).drewN mq).setCell ⟨g, i * 3 + 2, none⟩ (.int .i64 (min (sr : Int) (m : Int)))).drewN mr) (by
        have e1 : ((Dsk.truncF m fs[i].fl).sure : Int) = min (sr : Int) (m : Int) := by
          show ((min fs[i].fl.sure m : Nat) : Int) = _
          rw [← HSR.out]; omega
        show _ = ((w1.setCell ⟨g, i * 3 + 2, none⟩ (.int .i64 ((Dsk.truncF m fs[i].fl).sure : Int))).setCell ⟨g, i * 3 + 1, none⟩ (.slice A' m bc')).heap
        rw [e1, ← set_comm w1 g (i * 3 + 1) (i * 3 + 2) _ _ (by omega)]
        rfl) rfl rfl rfl) (D' := { (Dsk.pass D).1 with fs := D.fs.modify i (Dsk.truncF m) }) (by
        rw [set_modify fs hi ⟨Dsk.truncF m fs[i].fl, .slice A' m bc'⟩ (Dsk.truncF m) rfl, HH.out.fls]) hgood 0
    obtain ⟨_, S', k1, k2, k3⟩ := hdid
    have hf1 := HF.out
    have hf2 : Foot S w w1 := (Foot.drewN _ w _).trans (hf1.mono fun k _ (e : k = d) => by rw [e]; exact HH.out.inS d (.inl rfl)) fun _ _ h => h
    exact ⟨rfl, S', k1, hf2.trans k2 fun _ _ h => h, fun k hk => (k3 k hk).imp id fun h => Nat.le_trans hf2.size h⟩
  · have H1 := Lib.hid h1
    have HF := Lib.hid hf1
    have HPZ := Lib.hid hp
    clear hp h1 hf1
    go_wp2_with fail
    go_ret
    refine ⟨41, rfl, ?_⟩
    rw [HW.out, change_no HPZ.out]
    exact ⟨HPZ.out.symm, S, H1.out, (Foot.drewN _ w _).trans (HF.out.mono fun k _ e => HH.out.inS k (e.elim .inl fun e => .inr (.inl e))) fun _ _ h => h, fun k hk => .inl hk⟩
theorem two_new (w : World) (u v : Value) (t t' : TypeId) : ((w.alloc (.cells #[u] t)).alloc (.cells #[v] t')).cell? ⟨w.heap.size, 0, none⟩ = some u ∧ ((w.alloc (.cells #[u] t)).alloc (.cells #[v] t')).cell? ⟨w.heap.size + 1, 0, none⟩ = some v ∧
    Below w.heap.size w ((w.alloc (.cells #[u] t)).alloc (.cells #[v] t')) ∧ ((w.alloc (.cells #[u] t)).alloc (.cells #[v] t')).heap.size = w.heap.size + 2 :=
  ⟨cell_of_one (heap_alloc2_old w _ _), cell_of_one (heap_alloc2_new w _ _), ((Below.refl _ _).alloc (Nat.le_refl _) _).alloc (by simp) _, by simp⟩
set_option maxRecDepth 100000 in
theorem trunc_any (nm : ByteArray) (n : Int) (h : IsDisk w d D S) : Calls Try.prog 27 #[.pointer (some ⟨d, 0, none⟩), .string nm, .int .i64 n] w (AnyRet (Did w d S (Dsk.truncate D nm n))) := by
  obtain ⟨T, v, fs, left, fv, h⟩ := h
  obtain ⟨n1, n2, hb, hsz⟩ := two_new w (.pointer (some ⟨d, 0, none⟩)) (.int .i64 n) 24 3
  have HA := Lib.hid (ask_at nm 57 #[.pointer (some ⟨w.heap.size + 1, 0, none⟩), .pointer (some ⟨w.heap.size, 0, none⟩)] (truncWhat D n) (fun _ _ => (enters_of Try.func57 (by kernel_rfl) rfl) _ _) (h.below hb) (fun gr c w1 hv _ hb1 h1 hp _ =>
    trunc_cl (bn := w.heap.size + 1) (bd := w.heap.size) h1 hp ((hb1.cell (p := ⟨w.heap.size + 1, 0, none⟩) (by rw [hsz]; simp)).trans n2) ((hb1.cell (p := ⟨w.heap.size, 0, none⟩) (by rw [hsz]; simp)).trans n1) (by
      have h1 := h.head.lt
      have h2 : gr < w.heap.size := owns_lt h.files.row (by rw [hv]; rfl)
      have h3 := hb1.size
      rw [hsz] at h3
      exact ⟨by omega, by omega, by omega⟩)))
  have HB := Lib.hid hb
  clear h n1 n2 hb hsz
  go_enter Try.func27, Try.ntmps27
  go_wp2_with fail
  refine HA.out.mono ?_
  rintro e w' ⟨r, rfl, hq⟩
  have HQ := Lib.hid hq
  clear hq
  go_wp2_with fail
  go_ret
  exact ⟨r, rfl, HQ.out.from_ HB.out⟩
end
end Go.Proofs.Ytceldekbkffhpaa
