/-
  The contract of goDown: of each file what is sure stays, and of the rest as much as is kept.
-/
import Derived.Test.YtceldekbkffhpaaDCut
import Derived.Test.YtceldekbkffhpaaDQuiet
import Derived.Lib.MinMax
import Derived.StillTailTactics
import Derived.Deep.RegionWith
import Derived.Laws.EntriesVeiled
import Derived.Deep.DeepCutAuto
namespace Go.Proofs.Ytceldekbkffhpaa
open Go.RowKit
/-- A slice of ints that can be read. -/
def Ints (w : World) (v : Value) (l : List Int) : Prop := ∃ A c, v = .slice A l.length c ∧ l.length ≤ c ∧ c ≤ maxLen ∧ (A = none → l.length = 0 ∧ c = 0) ∧ (0 < l.length → ∃ b off, A = some ⟨b, off, none⟩ ∧ b < w.heap.size ∧ ∀ j, j < l.length → w.cell? ⟨b, off + j, none⟩ = some (.int .i64 (l.getD j 0)))
theorem Ints.foot {S : Nat → Prop} {w w' : World} {v : Value} {l : List Int} (h : Ints w v l) (hf : Foot S w w') (hn : ∀ k, v.ownBlock = some k → ¬ S k) : Ints w' v l := by
  obtain ⟨A, c, rfl, h1, h2, h3, h4⟩ := h
  refine ⟨A, c, rfl, h1, h2, h3, fun h0 => ?_⟩
  obtain ⟨b, off, rfl, hb, hc⟩ := h4 h0
  exact ⟨b, off, rfl, Nat.lt_of_lt_of_le hb hf.size, fun j hj => (hf.cell (p := ⟨b, off + j, none⟩) hb (hn b rfl)).trans (hc j hj)⟩
/-- The same bytes, fewer of them. -/
def cutV : Value → Nat → Value
  | .slice A _ c, n => .slice A n c
  | v, _ => v
theorem cutV_block (v : Value) (n : Nat) : (cutV v n).ownBlock = v.ownBlock := by
  cases v <;> try rfl
  rename_i A n c
  cases A <;> rfl
def crashM (keep : List Int) (i : Nat) (f : MF) : MF := ⟨Dsk.crashF keep i f.fl, cutV f.bv (Dsk.crashF keep i f.fl).sure⟩
def crashedM (keep : List Int) (fs : List MF) : List MF := fs.mapIdx (crashM keep)
/-- The first few are done. -/
def upTo (keep : List Int) (k : Nat) (fs : List MF) : List MF := fs.mapIdx fun i f => if i < k then crashM keep i f else f
theorem upTo_len (keep : List Int) (k : Nat) (fs : List MF) : (upTo keep k fs).length = fs.length := by simp [upTo]
theorem upTo_at (keep : List Int) (k : Nat) (fs : List MF) {i : Nat} (hi : i < fs.length) : (upTo keep k fs)[i]'(by rw [upTo_len]; exact hi) = if i < k then crashM keep i fs[i] else fs[i] := by simp [upTo]
theorem upTo_zero (keep : List Int) (fs : List MF) : upTo keep 0 fs = fs := by
  apply List.ext_getElem (upTo_len _ _ _)
  intro i h1 h2
  rw [upTo_at _ _ _ h2]; simp
theorem upTo_all (keep : List Int) (fs : List MF) : upTo keep fs.length fs = crashedM keep fs := by
  apply List.ext_getElem (by simp [crashedM, upTo])
  intro i h1 h2
  have hi : i < fs.length := by rwa [upTo_len] at h1
  rw [upTo_at _ _ _ hi, if_pos hi]; simp [crashedM]
theorem upTo_succ (keep : List Int) (k : Nat) (fs : List MF) (hk : k < fs.length) : upTo keep (k + 1) fs = (upTo keep k fs).set k (crashM keep k fs[k]) := by
  apply List.ext_getElem (by simp [upTo])
  intro i h1 h2
  have hi : i < fs.length := by rwa [upTo_len] at h1
  rw [upTo_at _ _ _ hi, List.getElem_set]
  by_cases hik : k = i
  · subst hik
    rw [if_pos rfl, if_pos (by omega)]
  · rw [if_neg hik, upTo_at _ _ _ hi]
    by_cases h : i < k
    · rw [if_pos h, if_pos (by omega)]
    · rw [if_neg h, if_neg (by omega)]
theorem kept_le (keep : List Int) (i n : Nat) : Dsk.kept keep i n ≤ n := by
  unfold Dsk.kept
  split
  · omega
  · exact Nat.zero_le _
theorem crashM_fl (keep : List Int) (fs : List MF) : (crashedM keep fs).map MF.fl = Dsk.crashed keep (fs.map MF.fl) := by
  unfold crashedM Dsk.crashed
  apply List.ext_getElem (by simp)
  intro i h1 h2
  simp [crashM]
theorem set_idle {w : World} {base : Nat} {e : TypeId} {size n cap g j : Nat} {xs : List Value} {v : Value} (h : w.ownsRow base e size (.slice (some ⟨g, 0, none⟩) n cap) n xs) (hj : xs[j]? = some v) : w.setCell ⟨g, j, none⟩ v = w := by
  rcases h.2 with ⟨hv, _⟩ | ⟨g', cap', cur, hv, hb, hg, hnc, hcm, hcs, ht⟩
  · cases hv
  · injection hv with h1 _ h3
    injection h1 with h1
    injection h1 with h1
    subst h1; subst h3
    rw [setCell_eq_setRow w g j cur e (0, 0) v hg]
    have : cur.setIfInBounds j v = cur := by
      rw [← ht, List.getElem?_take] at hj
      split at hj
      · apply Array.ext_getElem?
        intro i
        rw [Array.getElem?_setIfInBounds]
        split
        · rename_i h; subst h
          split
          · simpa using hj.symm
          · rename_i h2; simp [Array.getElem?_eq_none (by omega : cur.size ≤ j)]
        · rfl
      · cases hj
    rw [this]
    exact setRow_self w g cur e (0, 0) hg
/-- One file's round. -/
theorem down_step {S : Nat → Prop} {w W : World} {d g c : Nat} {fs : List MF} {keep : List Int} {k m : Nat} (h : Files w d (.slice (some ⟨g, 0, none⟩) fs.length c) (upTo keep k fs)) (hk : k < fs.length) (hd : d < w.heap.size)
    (hm : (Dsk.crashF keep k fs[k].fl).sure = m)
    (hW : Foot (fun _ => False) ((w.setCell ⟨g, k * 3 + 2, none⟩ (.int .i64 (m : Int))).setCell ⟨g, k * 3 + 1, none⟩ (cutV fs[k].bv m)) W) (hS : S g) :
    Files W d (.slice (some ⟨g, 0, none⟩) fs.length c) (upTo keep (k + 1) fs) ∧ Foot S w W := by
  have hk' : k < (upTo keep k fs).length := by rw [upTo_len]; exact hk
  have hat : (upTo keep k fs)[k]'hk' = fs[k] := by rw [upTo_at _ _ _ hk, if_neg (Nat.lt_irrefl k)]
  have f0 : Foot (fun x => x = g) w ((w.setCell ⟨g, k * 3 + 2, none⟩ (.int .i64 (m : Int))).setCell ⟨g, k * 3 + 1, none⟩ (cutV fs[k].bv m)) :=
    (Foot.set (fun x => x = g) w _ _ rfl).trans (Foot.set (fun x => x = g) _ _ _ rfl) fun _ _ h => h
  have f1 : Foot (fun x => x = g) w W := f0.trans hW fun _ _ h => h.elim
  refine ⟨?_, f1.mono fun i _ e => by rw [e]; exact hS⟩
  rw [upTo_succ keep k fs hk]
  have hb := h.bytes _ (List.getElem_mem hk')
  rw [hat] at hb
  have hs := h.sure _ (List.getElem_mem hk')
  rw [hat] at hs
  obtain ⟨A, cb, hbv, hc1, hc2, hc3⟩ := hb.val
  have hle : (Dsk.crashF keep k fs[k].fl).sure ≤ fs[k].fl.data.length := by
    show _ + _ ≤ _
    have := kept_le keep k (fs[k].fl.data.length - fs[k].fl.sure)
    omega
  have hdl : (Dsk.crashF keep k fs[k].fl).data.length = (Dsk.crashF keep k fs[k].fl).sure := by
    show (List.take _ _).length = _
    rw [List.length_take]; exact Nat.min_eq_left hle
  have hoff := h.off _ (List.getElem_mem hk')
  rw [hat] at hoff
  have hrow := h.row
  rw [upTo_len] at hrow
  have hr2 := (World.ownsRow.stored (World.ownsRow.stored hrow (k * 3 + 2) (.int .i64 (m : Int))).1 (k * 3 + 1) (cutV fs[k].bv m)).1
  have hr3 := owns_foot hr2 hW (fun _ _ e => e)
  refine h.put hk' _ ?_ ?_ (fun x e => ?_) ?_ hd f1 (fun x _ e => .inr (.inl (by rw [e]; rfl)))
  · rw [rowCells_set _ hk' _ (by rw [hat]; rfl), upTo_len]
    have e1 : (crashM keep k fs[k]).fl.sure = m := hm
    have e2 : (crashM keep k fs[k]).bv = cutV fs[k].bv m := by rw [← hm]; rfl
    rw [e1, e2]
    exact hr3
  · show Bytes W (cutV fs[k].bv (Dsk.crashF keep k fs[k].fl).sure) (Dsk.crashF keep k fs[k].fl).data
    unfold Bytes at hb ⊢
    rw [hbv] at hb ⊢
    have ht := owns_take hb (m := (Dsk.crashF keep k fs[k].fl).sure) hle
    rw [Nat.mul_one] at ht
    have ht2 := owns_foot ht f1 (fun x e e' => by
      have e0 : (cutV fs[k].bv (Dsk.crashF keep k fs[k].fl).sure).ownBlock = some x := by rw [hbv]; exact e
      rw [cutV_block] at e0
      have := (hoff x e0).2
      exact this (by rw [e']; rfl))
    rw [hdl]
    have e3 : (Dsk.crashF keep k fs[k].fl).data.map byteV = (fs[k].fl.data.map byteV).take (Dsk.crashF keep k fs[k].fl).sure := by
      rw [← List.map_take]; rfl
    rw [e3]
    exact ht2
  · left
    rw [hat]
    have e' : (cutV fs[k].bv (Dsk.crashF keep k fs[k].fl).sure).ownBlock = some x := e
    rw [cutV_block] at e'
    exact e'
  · show (Dsk.crashF keep k fs[k].fl).sure ≤ (Dsk.crashF keep k fs[k].fl).data.length
    rw [hdl]; exact Nat.le_refl _
def DownPost (w : World) (d cap : Nat) (v : Value) (starts : Nat) (left : Int) (fs' : List MF) (e : Ending) (w' : World) : Prop :=
  e = .returned (.tuple #[]) ∧ Head w' d cap v true starts left .nilFunc ∧ Files w' d v fs' ∧ Foot (fun k => k = d ∨ v.ownBlock = some k) w w'
set_option maxRecDepth 100000 in
set_option maxHeartbeats 2000000 in
theorem goDown_row {d cap : Nat} {down : Bool} {starts : Nat} {left : Int} {fv : Value} {fs : List MF} {g c : Nat} (kv : Value) (keep : List Int) (w : World) (hh : Head w d cap (.slice (some ⟨g, 0, none⟩) fs.length c) down starts left fv) (h : Files w d (.slice (some ⟨g, 0, none⟩) fs.length c) fs)
    (hl : fs.length ≤ 1000) (hk : Ints w kv keep) (hko : ∀ k, 0 < keep.length → kv.ownBlock = some k → k ≠ d ∧ k ≠ g) :
    Calls Try.prog 54 #[.pointer (some ⟨d, 0, none⟩), kv] w (DownPost w d cap (.slice (some ⟨g, 0, none⟩) fs.length c) starts left (crashedM keep fs)) := by
  obtain ⟨KA, kc, rfl, hk1, hk2, hk3, hk4⟩ := hk
  obtain ⟨A, c', hv, hnc, hcm, _⟩ := h.len
  injection hv with hvA _ hv2
  subst hvA
  subst hv2
  have hgd : g ≠ d := fun e => h.offd (by rw [e]; rfl)
  have hdl := hh.lt
  have hgl : g < w.heap.size := owns_lt h.row rfl
  have HK := Lib.hid hk4
  have HKO := Lib.hid hko
  have HF := Lib.hid h
  have HH := Lib.hid hh
  obtain ⟨c0, c1, c2, c3, c4, c5, hz⟩ := hh.cells
  clear h hh hk4 hk3 hko c0 c2 c3 c4 c5 hz
  unfold maxLen at hcm hk2
  go_enter Try.func54, Try.ntmps54
  go_wp2_with fail
  go_loopg [11] fs.length (fun kx s11 wr => ∃ k : Nat, k ≤ fs.length ∧ s11 = .int .i64 (k : Int) ∧ fs.length - k ≤ kx ∧ Hid (Files wr d (.slice (some ⟨g, 0, none⟩) fs.length c) (upTo keep k fs)) ∧ Hid (Foot (fun k => k = g) w wr))
  case atStart => exact ⟨0, Nat.zero_le _, rfl, by omega, by rw [upTo_zero]; exact HF.out, Foot.refl _ _⟩
  case round =>
    obtain ⟨k, hkn, rfl, hgk, HFk, HW⟩ := hrel
    have hd1 := (HW.out.cell (p := ⟨d, 1, none⟩) hdl (fun e => hgd e.symm)).trans c1
    by_cases hlt : k < fs.length
    · have hlk : k < (upTo keep k fs).length := by rw [upTo_len]; exact hlt
      obtain ⟨g', c', hv', x1, x2, x3, b1, b2, b3, bz⟩ := HFk.out.at_ hlk
      clear x1 x2 x3
      injection hv' with hv1 hvl hv3
      injection hv1 with hv1
      injection hv1 with hv1
      subst hv1
      clear hvl hv3
      rw [upTo_at _ _ _ hlt, if_neg (Nat.lt_irrefl k)] at b1 b2 b3
      have hbs := HFk.out.bytes _ (List.getElem_mem hlk)
      have hsu := HFk.out.sure _ (List.getElem_mem hlk)
      rw [upTo_at _ _ _ hlt, if_neg (Nat.lt_irrefl k)] at hbs hsu
      obtain ⟨BA, bc, hbv, hb1, hb2, hb3⟩ := hbs.val
      have HB3 := Lib.hid hb3
      have HBV := Lib.hid hbv
      have z1 := bz (k * 3 + 1)
      have z2 := bz (k * 3 + 2)
      rw [hbv] at b2
      have hms : ∃ N : Nat, Dsk.kept keep k (fs[k].fl.data.length - fs[k].fl.sure) = N ∧ fs[k].fl.sure + N ≤ fs[k].fl.data.length := ⟨_, rfl, by have := kept_le keep k (fs[k].fl.data.length - fs[k].fl.sure); omega⟩
      obtain ⟨N, hN, hNle⟩ := hms
      have HST := Lib.hid (fun (W : World) (h : Foot (fun _ => False) ((wr.setCell ⟨g, k * 3 + 2, none⟩ (.int .i64 ((fs[k].fl.sure + N : Nat) : Int))).setCell ⟨g, k * 3 + 1, none⟩ (cutV fs[k].bv (fs[k].fl.sure + N))) W) =>
        down_step (S := fun k => k = g) HFk.out hlt (Nat.lt_of_lt_of_le hdl HW.out.size) (m := fs[k].fl.sure + N) (by rw [← hN]; rfl) h rfl)
      rw [hbv] at HST
      have hrow2 := HFk.out.row
      have hcell2 := (rowCells_at (upTo keep k fs) hlk).2.2
      rw [upTo_at _ _ _ hlt, if_neg (Nat.lt_irrefl k)] at hcell2
      rw [upTo_len] at hrow2
      have HR2 := Lib.hid hrow2
      have HC2 := Lib.hid hcell2
      clear hrow2 hcell2
      clear b1 bz hbs hbv hb3 HBV hlk
      unfold maxLen at hb2
      have HN := Lib.hid hN
      clear hN
      generalize fs[k].fl.data.length = L at *
      generalize fs[k].fl.sure = sr at *
      by_cases hkk : k < keep.length
      · obtain ⟨b, off, rfl, hbl, hkc⟩ := HK.out (by omega)
        have hkc := hkc k hkk
        have hbg : b ≠ g := (HKO.out b (by omega) rfl).2
        have hkc := (HW.out.cell (p := ⟨b, off + k, none⟩) hbl hbg).trans hkc
        have hx : max 0 (min (keep.getD k 0) ((L - sr : Nat) : Int)) = (N : Int) := by
          rw [← HN.out]; unfold Dsk.kept; rw [if_pos hkk]; omega
        generalize keep.getD k 0 = x at *
        have hsum : IntKind.i64.wrap ((sr : Int) + (N : Int)) = ((sr + N : Nat) : Int) := by rw [IntWalk.i64_in _ (by omega)]; omega
        have hUN : ∀ m, Calls Try.prog 44 #[.pointer (some ⟨g, k * 3, none⟩)] (wr.drewN m) fun e w'' => e = .returned (.int .i64 ((L - sr : Nat) : Int)) ∧ ∃ n, w'' = wr.drewN n := fun m =>
          (unsynced_any g (k * 3) L bc BA sr _ (by rw [World.cell?_drewN]; exact b2) (by rw [World.cell?_drewN]; exact b3) hsu (by unfold maxLen; omega)).mono fun e w'' ⟨h1, h2⟩ => ⟨h1, m + 1, by rw [h2]; rfl⟩
        have HUN := Lib.hid hUN
        clear hUN
        go_upto_region 5 with fail
        refine wp_region_tail_drawn 15 (by kernel_rfl) (by kernel_rfl) ?_
        simp only [List.take_succ_cons, List.take_zero, List.drop_succ_cons, List.drop_zero]
        repeat (go_big_quiet_step ((go_at_call 44; exact HUN.out _)))
        refine wpQuiet_nil ?_
        intro _ hw'
        obtain ⟨nq, hw''⟩ := hw'
        subst hw''
        go_wp2
        refine wp_region_tail_drawn 12 (by kernel_rfl) (by kernel_rfl) ?_
        simp only [List.take_succ_cons, List.take_zero, List.drop_succ_cons, List.drop_zero]
        repeat (go_big_quiet_step (fail))
        refine wpQuiet_nil ?_
        intro _ hw'
        obtain ⟨mq, hw''⟩ := hw'
        subst hw''
        go_wp2
        obtain ⟨e1, e2⟩ := HST.out _ (eqv_foot (S := fun _ => False) (w' := (((wr.drewN nq).setCell ⟨g, k * 3 + 2, none⟩ (.int .i64 ((sr : Int) + (N : Int)))).drewN mq).setCell ⟨g, k * 3 + 1, none⟩ (.slice BA (sr + N) bc)) rfl rfl rfl rfl)
        go_roundg (fs.length - (k + 1))
        case measure => omega
        case rel => exact ⟨k + 1, by omega, by go_num, by omega, e1, HW.out.trans e2 fun _ _ h => h⟩
      · have h0 : N = 0 := by rw [← HN.out]; unfold Dsk.kept; rw [if_neg hkk]
        subst h0
        have hid := Lib.hid (show wr.setCell ⟨g, k * 3 + 2, none⟩ (.int .i64 ((sr + 0 : Nat) : Int)) = wr from set_idle HR2.out HC2.out)
        have t1 : decide ((k : Int) < (keep.length : Int)) = false := decide_eq_false (by omega)
        go_wp2_with fail
        refine wp_region_tail_drawn 12 (by kernel_rfl) (by kernel_rfl) ?_
        simp only [List.take_succ_cons, List.take_zero, List.drop_succ_cons, List.drop_zero]
        repeat (go_big_quiet_step (fail))
        refine wpQuiet_nil ?_
        intro _ hw'
        obtain ⟨mq, hw''⟩ := hw'
        subst hw''
        go_wp2
        obtain ⟨e1, e2⟩ := HST.out ((wr.drewN mq).setCell ⟨g, k * 3 + 1, none⟩ (.slice BA sr bc)) (by
          rw [hid.out]
          exact eqv_foot rfl rfl rfl rfl)
        go_roundg (fs.length - (k + 1))
        case measure => omega
        case rel => exact ⟨k + 1, by omega, by go_num, by omega, e1, HW.out.trans e2 fun _ _ h => h⟩
    · obtain rfl : k = fs.length := by omega
      have hhw := HH.out.foot HW.out (fun e => hgd e.symm)
      obtain ⟨k0, k1, k2, k3, k4, k5, kz⟩ := hhw.cells
      have z2 := kz 2
      have z5 := kz 5
      have HHw := Lib.hid hhw
      clear k0 k1 k3 k4 kz hhw
      go_wp2_with fail
      go_end0
      have h2 := HHw.out.set2 true
      have h5 := h2.set5 .nilFunc
      have hf2 : Foot (fun k => k = d) wr (wr.setCell ⟨d, 2, none⟩ (.bool true)) := Foot.set _ _ _ _ rfl
      have hf5 : Foot (fun k => k = d) wr ((wr.setCell ⟨d, 2, none⟩ (.bool true)).setCell ⟨d, 5, none⟩ .nilFunc) := hf2.trans (Foot.set (fun k => k = d) _ _ _ rfl) fun _ _ h => h
      refine ⟨rfl, h5, ?_, (HW.out.mono fun i _ (e : i = g) => Or.inr (by rw [e]; rfl)).trans hf5 fun i _ (e : i = d) => .inl e⟩
      rw [← upTo_all]
      have hff := HFk.out
      exact hff.fewer (List.Sublist.refl _) (owns_foot hff.row hf5 fun x e (e' : x = d) => hff.offd (by rw [e, e'])) rfl hf5 fun x (e : x = d) => .inl e
set_option maxRecDepth 100000 in
theorem goDown_nil {d cap : Nat} {down : Bool} {starts : Nat} {left : Int} {fv : Value} (kv : Value) (keep : List Int) (w : World) (hh : Head w d cap (.slice none 0 0) down starts left fv) (h : Files w d (.slice none 0 0) []) :
    Calls Try.prog 54 #[.pointer (some ⟨d, 0, none⟩), kv] w (DownPost w d cap (.slice none 0 0) starts left (crashedM keep [])) := by
  have HF := Lib.hid h
  have HH := Lib.hid hh
  obtain ⟨c0, c1, c2, c3, c4, c5, hz⟩ := hh.cells
  have z2 := hz 2
  have z5 := hz 5
  clear h hh c0 c3 c4 hz
  go_enter Try.func54, Try.ntmps54
  go_wp2_with fail
  go_loopg [11] 0 (fun _ s11 wr => s11 = .int .i64 0 ∧ w = wr)
  case atStart => exact ⟨rfl, rfl⟩
  case round =>
    obtain ⟨rfl, rfl⟩ := hrel
    go_wp2_with fail
    go_end0
    have h2 := HH.out.set2 true
    have h5 := h2.set5 .nilFunc
    have hf2 : Foot (fun k => k = d) w (w.setCell ⟨d, 2, none⟩ (.bool true)) := Foot.set _ _ _ _ rfl
    have hf5 : Foot (fun k => k = d) w ((w.setCell ⟨d, 2, none⟩ (.bool true)).setCell ⟨d, 5, none⟩ .nilFunc) := hf2.trans (Foot.set (fun k => k = d) _ _ _ rfl) fun _ _ h => h
    exact ⟨rfl, h5, HF.out.fewer (List.Sublist.refl _) (World.ownsRow_nil _ _ _ _) rfl hf5 fun x (e : x = d) => .inl e, hf5.mono fun i _ (e : i = d) => .inl e⟩
theorem goDown_any {d cap : Nat} {v : Value} {down : Bool} {starts : Nat} {left : Int} {fv : Value} {fs : List MF} (kv : Value) (keep : List Int) (w : World) (hh : Head w d cap v down starts left fv) (h : Files w d v fs)
    (hl : fs.length ≤ 1000) (hk : Ints w kv keep) (hko : ∀ k, 0 < keep.length → kv.ownBlock = some k → k ≠ d ∧ v.ownBlock ≠ some k) :
    Calls Try.prog 54 #[.pointer (some ⟨d, 0, none⟩), kv] w (DownPost w d cap v starts left (crashedM keep fs)) := by
  rcases hr : h.row.2 with ⟨hv, h0⟩ | ⟨g, c, cur, hv, _⟩
  · obtain rfl : fs = [] := List.eq_nil_of_length_eq_zero h0
    subst hv
    exact goDown_nil kv keep w hh h
  · subst hv
    exact goDown_row kv keep w hh h hl hk fun k h0 e => ⟨(hko k h0 e).1, fun e' => (hko k h0 e).2 (by rw [e']; rfl)⟩
end Go.Proofs.Ytceldekbkffhpaa
